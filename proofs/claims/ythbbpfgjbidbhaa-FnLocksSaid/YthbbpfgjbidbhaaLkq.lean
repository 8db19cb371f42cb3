/- AcquireLock of the program and of the model: what each answers, in memory of its own. -/
import Derived.Test.YthbbpfgjbidbhaaLka
import Derived.Test.YthbbpfgjbidbhaaLkr
import Derived.Test.YthbbpfgjbidbhaaLkt
import Derived.Deep.RegionLaw
namespace Go.Proofs.Ythbbpfgjbidbhaa.lkq
open Go.ChangeShapes Go.WideShapes Go.ChangeAt Go.RowKit
open Go.Proofs.Ythbbpfgjbidbhaa.el2 Go.Proofs.Ythbbpfgjbidbhaa.seq Go.Proofs.Ythbbpfgjbidbhaa.ap Go.Proofs.Ythbbpfgjbidbhaa.lk Go.Proofs.Ythbbpfgjbidbhaa.lka Go.Proofs.Ythbbpfgjbidbhaa.pw Go.Proofs.Ythbbpfgjbidbhaa.mw
open Go.Proofs.Ythbbpfgjbidbhaa.lkd (info_lk clone_k)
open Go.Proofs.Ythbbpfgjbidbhaa.lkt (own_more LT acqB acqF impl_table impl_acquire impl_sorted wf_of wf_ko)
open Go.Proofs.Ythbbpfgjbidbhaa.cl (own_empty)
open Go.Proofs.Ythbbpfgjbidbhaa.rx (all_step)
open Go.Proofs.Ythbbpfgjbidbhaa.vers (In ret_b)
set_option linter.unusedVariables false
set_option linter.unusedSimpArgs false
/-- an append whose run is known, as one step of a region that draws -/
theorem step_append_run {P : Program} {ops : Array Oper} {o : Oper} {a : Act} {w : World} {K : Act → World → Prop} {Q : Exit → Act → World → Prop} {E : Prop} (hgd : o.guard = none) (s x : Operand) (t t' : TypeId)
    (hop : o.op = .call { callee := .builtin .append, args := #[s, x], argTypes := #[t, t'] }) (v u : Value) (hs : a.eval s = v) (hx : a.eval x = u) {v' : Value} {w' : World} (hr : (Builtin.append_ #[t, t'] o.type #[v, u]).run P w = .ok v' w') (hK : K (a.put o.dst v') w') :
    if Region.wanted o (yielded ops a.tmps) = true then Oper.wp P o a w K Q else E := by
  have hw : Region.wanted o (yielded ops a.tmps) = true := by simp [Region.wanted, hgd]
  rw [if_pos hw]
  unfold Oper.wp
  simp [execOp, hop, resolve, invoke, builtin, hs, hx, hr, Result.andThen]
  exact hK
/-- an append onto a row of the call's own keeps what lies below, and what lies in another block -/
theorem app_k (V : World) {base k n c0 c B : Nat} {A0 A : Option Addr} {xs l : List E2} (ho : V.ownsRow base 31 2 (.slice A0 k c0) k (flat xs)) (hv : Vs V B A n l) (hk : k + n ≤ 4194304) (hb : base ≤ V.heap.size) :
    ∃ A' c' V', (Builtin.append_ #[24, 24] 24 #[.slice A0 k c0, .slice A n c]).run Try.prog V = .ok (.slice A' (k + n) c') V' ∧ V'.ownsRow base 31 2 (.slice A' (k + n) c') (k + n) (flat (xs ++ l)) ∧ V.grownBy V' (Value.slice A0 k c0).ownBlock ∧ Below base V V' := by
  obtain ⟨i0, hi, hz, hs, hby⟩ := info_parts info_lk
  obtain ⟨v', w', hr, ho', hg⟩ := run_append_e2 (P := Try.prog) V 24 24 31 i0 _ Try.underlying24 hi hz hs hby rfl ho hv (c := c) hk hb
  have hl : (xs ++ l).length = k + n := by have := ho'.1; rw [flat_len] at this; omega
  obtain ⟨A', c', rfl, _⟩ := own_vs ho' hl
  refine ⟨A', c', w', hr, ho', hg, ((Below.refl base V).grown hg hb fun q hq => ?_)⟩
  rcases ho.2 with ⟨e, _⟩ | ⟨g, cap, cur, e, hg', _⟩
  · rw [e] at hq; simp [Value.ownBlock] at hq
  · rw [e] at hq; simp [Value.ownBlock] at hq; omega
theorem one_vs {w : World} {q : Nat} {m : E2} (h : At w q 0 m) : Vs w (q + 1) (some ⟨q, 0, none⟩) 1 [m] := ⟨rfl, fun _ => ⟨q, 0, rfl, by omega, fun k z hz => by
  match k, hz with
  | 0, hz => injection hz with hz; subst hz; exact h⟩⟩
/-- the three appends from a world that has both boxes: the empty row g, the mark's box q -/
theorem r3k (V : World) {base g q B k n c1 c2 : Nat} {A1 A2 : Option Addr} {P D : List E2} {m : E2} (ho : V.ownsRow base 31 2 (.slice (some ⟨g, 0, none⟩) 0 0) 0 (flat [])) (hm : At V q 0 m) (hq : q < V.heap.size) (hqg : q ≠ g) (hP : Vs V B A1 k P) (hD : Vs V B A2 n D) (hB : B ≤ base) (hk : k + n ≤ 2097152) (hb : base ≤ V.heap.size) :
    ∃ A3 c3 W3 A4 c4 W4 A5 c5 W5, (Builtin.append_ #[24, 24] 24 #[.slice (some ⟨g, 0, none⟩) 0 0, .slice A1 k c1]).run Try.prog V = .ok (.slice A3 k c3) W3 ∧
      (Builtin.append_ #[24, 24] 24 #[.slice A3 k c3, .slice (some ⟨q, 0, none⟩) 1 1]).run Try.prog W3 = .ok (.slice A4 (k + 1) c4) W4 ∧
      (Builtin.append_ #[24, 24] 24 #[.slice A4 (k + 1) c4, .slice A2 n c2]).run Try.prog W4 = .ok (.slice A5 (k + 1 + n) c5) W5 ∧
      W5.ownsRow base 31 2 (.slice A5 (k + 1 + n) c5) (k + 1 + n) (flat (P ++ m :: D)) ∧ Below base V W5 := by
  obtain ⟨A3, c3, W3, hr3, ho3, hg3, hb3⟩ := app_k (c := c1) V ho hP (by omega) hb
  rw [Nat.zero_add] at hr3 ho3
  have hm3 : At W3 q 0 m := hm.of_block (hg3.block q hq (by simp [Value.ownBlock]; omega))
  obtain ⟨A4, c4, W4, hr4, ho4, hg4, hb4⟩ := app_k (c := 1) W3 ho3 (one_vs hm3) (by omega) (Nat.le_trans hb hb3.size)
  obtain ⟨A5, c5, W5, hr5, ho5, hg5, hb5⟩ := app_k (c := c2) W4 ho4 (hD.below (below_le (hb3.trans hb4) hB)) (by omega) (Nat.le_trans hb (hb3.trans hb4).size)
  refine ⟨A3, c3, W3, A4, c4, W4, A5, c5, W5, hr3, hr4, hr5, ?_, (hb3.trans hb4).trans hb5⟩
  simp only [List.nil_append, List.append_assoc, List.cons_append] at ho5
  exact ho5
/-- .. where the mark's box is laid behind the first of them -/
theorem r3k' (V : World) {base g B k n c1 c2 : Nat} {A1 A2 : Option Addr} {P D : List E2} (m : E2) (ho : V.ownsRow base 31 2 (.slice (some ⟨g, 0, none⟩) 0 0) 0 (flat [])) (hP : Vs V B A1 k P) (hD : Vs V B A2 n D) (hB : B ≤ base) (hk : k + n ≤ 2097152) (hb : base ≤ V.heap.size) :
    ∃ A3 c3 W3 A4 c4 W4 A5 c5 W5, (Builtin.append_ #[24, 24] 24 #[.slice (some ⟨g, 0, none⟩) 0 0, .slice A1 k c1]).run Try.prog V = .ok (.slice A3 k c3) W3 ∧
      (Builtin.append_ #[24, 24] 24 #[.slice A3 k c3, .slice (some ⟨W3.heap.size, 0, none⟩) 1 1]).run Try.prog (W3.alloc (.cells #[.int .i64 m.a, .int .i64 m.b] 31)) = .ok (.slice A4 (k + 1) c4) W4 ∧
      (Builtin.append_ #[24, 24] 24 #[.slice A4 (k + 1) c4, .slice A2 n c2]).run Try.prog W4 = .ok (.slice A5 (k + 1 + n) c5) W5 ∧
      W5.ownsRow base 31 2 (.slice A5 (k + 1 + n) c5) (k + 1 + n) (flat (P ++ m :: D)) ∧ Below base V W5 ∧ Below base V W3 := by
  obtain ⟨A3, c3, W3, hr3, ho3, hg3, hb3⟩ := app_k (c := c1) V ho hP (by omega) hb
  rw [Nat.zero_add] at hr3 ho3
  have hbn := new1 W3 (.cells #[.int .i64 m.a, .int .i64 m.b] 31)
  have hbs := hbn.size
  have hb33 := hb3.size
  obtain ⟨A4, c4, W4, hr4, ho4, hg4, hb4⟩ := app_k (c := 1) (W3.alloc (.cells #[.int .i64 m.a, .int .i64 m.b] 31)) (own_keep ho3 hbn) (one_vs (boxed W3 m 31)) (by omega) (by omega)
  have hb34 := hb3.trans ((hbn.mono (by omega)).trans hb4)
  obtain ⟨A5, c5, W5, hr5, ho5, hg5, hb5⟩ := app_k (c := c2) W4 ho4 (hD.below (below_le hb34 hB)) (by omega) (Nat.le_trans hb hb34.size)
  refine ⟨A3, c3, W3, A4, c4, W4, A5, c5, W5, hr3, hr4, hr5, ?_, hb34.trans hb5, hb3⟩
  simp only [List.nil_append, List.append_assoc, List.cons_append] at ho5
  exact ho5
theorem Vs.take {w : World} {B n : Nat} {A : Option Addr} {l : List E2} (h : Vs w B A n l) {k : Nat} (hk : k ≤ n) : Vs w B A k (l.take k) := ⟨by rw [List.length_take, h.1]; omega, fun h0 => by
  obtain ⟨b, o, e, hb, hx⟩ := h.2 (by omega)
  refine ⟨b, o, e, hb, fun j x hj => hx j x ?_⟩
  rw [List.getElem?_take] at hj
  split at hj
  · exact hj
  · cases hj⟩
theorem Vs.drop {w : World} {B n b o : Nat} {l : List E2} (h : Vs w B (some ⟨b, o, none⟩) n l) {k : Nat} (hk : k ≤ n) : Vs w B (some ⟨b, o + k * 2, none⟩) (n - k) (l.drop k) := ⟨by rw [List.length_drop, h.1], fun h0 => by
  obtain ⟨b', o', e, hb, hx⟩ := h.2 (by omega)
  injection e with e
  injection e with e1 e2
  subst e1 e2
  refine ⟨b, o + k * 2, rfl, hb, fun j x hj => ?_⟩
  rw [List.getElem?_drop] at hj
  have := hx _ _ hj
  rw [Nat.add_mul, ← Nat.add_assoc] at this
  exact this⟩
theorem acq_b {l : List E2} {key o : Int} (hl : lkB l = true) (hk : In 0 5 key = true) (ho : In 1 9 o = true) : acqB (mf l) key o = acB l key o := by
  unfold acqB
  cases hf : mf l key with
  | none => exact (ac_none hl hk ho hf).1.symm
  | some u => exact (ac_some hl hk ho hf).1.symm
theorem acq_l {l r : List E2} {key o : Int} (hl : lkB l = true) (hk : In 0 5 key = true) (ho : In 1 9 o = true) (hr : Asc r) (h : ∀ x u, acqF (mf l) key o x = some u ↔ (⟨x, u⟩ : E2) ∈ r) : r = acL l key o := by
  unfold acqF at h
  cases hf : mf l key with
  | none =>
    rw [hf] at h
    rw [(ac_none hl hk ho hf).2]
    exact asc_insW (m := ⟨key, o⟩) (lk_asc hl) hr h
  | some u =>
    rw [hf] at h
    rw [(ac_some hl hk ho hf).2]
    exact sort_same (lk_asc hl) hr h
set_option maxRecDepth 100000 in
set_option maxHeartbeats 3200000 in
theorem impl_acq {w : World} {B n c : Nat} {A : Option Addr} {l : List E2} (key o : Int) (hn : n ≤ 1048576) (h1 : Vs w B A n l) (hB : B ≤ w.heap.size) :
    Calls Try.prog 11 #[.slice A n c, .int .i64 key, .int .i64 o] w fun e w' => ∃ A' c', e = .returned (.tuple #[.slice A' (acL l key o).length c', .bool (acB l key o)]) ∧ w'.ownsRow w.heap.size 31 2 (.slice A' (acL l key o).length c') (acL l key o).length (flat (acL l key o)) ∧ Below w.heap.size w w' := by
  have H1 := Lib.hid h1
  have HLN := Lib.hid h1.1
  clear h1
  go_enter Try.func11, Try.ntmps11
  go_wp2_with fail
  refine (impl_are (by omega) H1.out hB).mono ?_
  rintro e W1 ⟨rfl, hb⟩
  have HB1 := Lib.hid hb
  have hs1 := hb.size
  clear hb
  have BAD : Hid (∀ W : World, Below w.heap.size w W → (lkB l = false ∨ In 0 5 key = false ∨ In 1 9 o = false) → Calls Try.prog 35 #[.slice A n c] W fun e w' => ∃ A' c', e = .returned (.slice A' n c') ∧ w'.ownsRow w.heap.size 31 2 (.slice A' n c') n (flat l) ∧ Below w.heap.size w w') := Lib.hid fun W hbW _ =>
    (clone_k (c := c) (show n ≤ 2097152 by omega) (H1.out.below (below_le hbW hB)) (Nat.le_trans hB hbW.size)).mono fun e w' ⟨A', c', he, ho, hb⟩ => ⟨A', c', he, own_more ho hbW.size, hbW.trans (hb.mono hbW.size)⟩
  rcases hl : lkB l with _ | _
  · have HL := Lib.hid hl
    have HE := Lib.hid (ac_bad (key := key) (o := o) (.inl hl))
    clear hl
    go_wp2_with fail
    refine (BAD.out _ HB1.out (.inl HL.out)).mono ?_
    rintro e W2 ⟨A', c', rfl, ho, hb⟩
    have HO := Lib.hid ho
    have HB2 := Lib.hid hb
    clear ho hb
    go_wp2_with fail
    go_ret2
    rw [HE.out.1, HE.out.2, HLN.out]
    exact ⟨_, _, rfl, HO.out, HB2.out⟩
  rcases hk : In 0 5 key with _ | _
  · have HK := Lib.hid hk
    have HE := Lib.hid (ac_bad (l := l) (o := o) (.inr (.inl hk)))
    clear hl hk
    go_wp2_with (first | (go_at_call 33; refine (key_q HK.out _).mono ?_; rintro e w9 ⟨rfl, rfl⟩) | fail)
    refine (BAD.out _ HB1.out (.inr (.inl HK.out))).mono ?_
    rintro e W2 ⟨A', c', rfl, ho, hb⟩
    have HO := Lib.hid ho
    have HB2 := Lib.hid hb
    clear ho hb
    go_wp2_with fail
    go_ret2
    rw [HE.out.1, HE.out.2, HLN.out]
    exact ⟨_, _, rfl, HO.out, HB2.out⟩
  rcases ho : In 1 9 o with _ | _
  · have HK := Lib.hid hk
    have HJ := Lib.hid ho
    have HE := Lib.hid (ac_bad (l := l) (key := key) (.inr (.inr ho)))
    clear hl hk ho
    go_wp2_with (first | (go_at_call 33; refine (key_q HK.out _).mono ?_; rintro e w9 ⟨rfl, rfl⟩) | (go_at_call 34; refine (id_q HJ.out _).mono ?_; rintro e w9 ⟨rfl, rfl⟩) | fail)
    refine (BAD.out _ HB1.out (.inr (.inr HJ.out))).mono ?_
    rintro e W2 ⟨A', c', rfl, ho, hb⟩
    have HO := Lib.hid ho
    have HB2 := Lib.hid hb
    clear ho hb
    go_wp2_with fail
    go_ret2
    rw [HE.out.1, HE.out.2, HLN.out]
    exact ⟨_, _, rfl, HO.out, HB2.out⟩
  have HL := Lib.hid hl
  have HK := Lib.hid hk
  have HJ := Lib.hid ho
  have hn6 : n ≤ 6 := by rw [← HLN.out]; exact lk_len hl
  obtain ⟨wk, wo⟩ := wf_ko hk ho
  have WK := Lib.hid wk
  have WO := Lib.hid wo
  clear hl hk ho BAD wk wo
  go_wp2_with (first | (go_at_call 33; refine (key_q HK.out _).mono ?_; rintro e w9 ⟨rfl, rfl⟩) | (go_at_call 34; refine (id_q HJ.out _).mono ?_; rintro e w9 ⟨rfl, rfl⟩) | fail)
  refine (impl_table hn (H1.out.below (below_le HB1.out hB)) (fun k y hy => wf_of (lk_ok HL.out (List.mem_of_getElem? hy))) (Nat.le_trans hB hs1)).mono ?_
  rintro e W2 ⟨tb, D, rfl, hLT, hMI, hb⟩
  have LT2 := Lib.hid hLT
  have MI2 := Lib.hid hMI
  have HB2 := Lib.hid (HB1.out.trans (hb.mono hs1))
  have hs2 := hb.size
  clear hLT hMI hb
  go_wp2_with fail
  refine (impl_acquire key o LT2.out MI2.out (by omega) WK.out WO.out hs2).mono ?_
  rintro e W3 ⟨rfl, ⟨D', n', hn', hLT, hMI⟩, hb⟩
  have LT3 := Lib.hid hLT
  have MI3 := Lib.hid hMI
  have HB3 := Lib.hid (HB2.out.trans (hb.mono hs1))
  have hs3 := Nat.le_trans hs2 hb.size
  clear hLT hMI hb
  rw [acq_b HL.out HK.out HJ.out]
  generalize hq : acB l key o = q
  have HQ := Lib.hid hq
  clear hq
  go_wp2_with fail
  refine (impl_sorted LT3.out MI3.out (by omega) hs3).mono ?_
  rintro e W4 ⟨A', c', r, rfl, ho, ha, hall, hb⟩
  have hr := acq_l HL.out HK.out HJ.out ha hall
  have HO := Lib.hid (own_more ho (show w.heap.size ≤ W3.heap.size by omega))
  have HB4 := Lib.hid (HB3.out.trans (hb.mono hs1))
  have HR := Lib.hid hr
  clear ho ha hall hb hr
  go_wp2_with fail
  go_ret2
  rw [← HR.out, HQ.out]
  exact ⟨_, _, rfl, HO.out, HB4.out⟩
set_option maxRecDepth 100000 in
set_option maxHeartbeats 1600000 in
theorem copy_k {w : World} {B n c : Nat} {A : Option Addr} {l : List E2} (hn : n ≤ 2097152) (h1 : Vs w B A n l) (hB : B ≤ w.heap.size) :
    Calls Try.prog 39 #[.slice A n c] w fun e w' => ∃ A' c', e = .returned (.slice A' n c') ∧ w'.ownsRow w.heap.size 31 2 (.slice A' n c') n (flat l) ∧ Below w.heap.size w w' := by
  have H1 := Lib.hid h1
  have hb0 := new1 w (.cells #[] 31)
  have ho0 := own_empty w 31 w.heap.size (Nat.le_refl _)
  obtain ⟨A', c', W', hr, ho, hg, hb⟩ := app_k (c := c) (w.alloc (.cells #[] 31)) ho0 (h1.below (below_le hb0 hB)) (by omega) (by simp)
  rw [Nat.zero_add, List.nil_append] at ho
  rw [Nat.zero_add] at hr
  have HO := Lib.hid ho
  have HB := Lib.hid (hb0.trans hb)
  clear h1 hb0 ho0 ho hg hb
  go_enter Try.func39, Try.ntmps39
  go_wp2_with (at_builtin; refine Lib.wpList_append_run _ rfl _ _ 24 24 rfl _ _ rfl rfl _ _ hr ?_)
  go_ret
  exact ⟨_, _, rfl, HO.out, HB.out⟩
set_option maxRecDepth 100000 in
set_option maxHeartbeats 16000000 in
theorem spec_acqm {w : World} {B n c : Nat} {A : Option Addr} {l : List E2} (m : E2) (hn : n ≤ 1048576) (h1 : Vs w B A n l) (hB : B ≤ w.heap.size) :
    Calls Try.prog 12 #[.slice A n c, .int .i64 m.a, .int .i64 m.b] w fun e w' => ∃ A' c', e = .returned (.tuple #[.slice A' (acL l m.a m.b).length c', .bool (acB l m.a m.b)]) ∧ w'.ownsRow w.heap.size 31 2 (.slice A' (acL l m.a m.b).length c') (acL l m.a m.b).length (flat (acL l m.a m.b)) ∧ Below w.heap.size w w' := by
  have H1 := Lib.hid h1
  have hln := h1.1
  have HLN0 := Lib.hid h1.1
  clear h1
  go_enter Try.func12, Try.ntmps12
  go_wp2_with fail
  refine (copy_k (by omega) H1.out hB).mono ?_
  rintro e W1 ⟨A', c', rfl, ho, hb⟩
  have HO1 := Lib.hid ho
  have HB1 := Lib.hid hb
  have hs1 := hb.size
  clear ho hb
  go_wp2_with fail
  refine (Go.Proofs.Ythbbpfgjbidbhaa.lkr.spec_owner m.a (by omega) (H1.out.below (below_le HB1.out hB)) (by omega)).mono ?_
  rintro e W1' ⟨rfl, rfl⟩
  generalize hz : ownI m.a l = z
  have HZ := Lib.hid hz
  clear hz
  go_wp2_with fail
  refine (spec_are (by omega) (H1.out.below (below_le HB1.out hB)) (by omega)).mono ?_
  rintro e W2 ⟨rfl, hb⟩
  have HO2 := Lib.hid (own_keep HO1.out hb)
  have HB2 := Lib.hid (HB1.out.trans (hb.mono hs1))
  have hs2 := Nat.le_trans hs1 hb.size
  clear hb
  rcases hl : lkB l with _ | _
  · have HE := Lib.hid (ac_bad (key := m.a) (o := m.b) (.inl hl))
    clear hl
    go_wp2_with fail
    go_ret2
    rw [HE.out.1, HE.out.2, HLN0.out]
    exact ⟨_, _, rfl, HO2.out, HB2.out⟩
  rcases hk : In 0 5 m.a with _ | _
  · have HK := Lib.hid hk
    have HE := Lib.hid (ac_bad (l := l) (o := m.b) (.inr (.inl hk)))
    clear hl hk
    go_wp2_with (first | (go_at_call 40; with_reducible refine (in_q HK.out _).mono ?_; rintro e w9 ⟨rfl, rfl⟩) | fail)
    go_ret2
    rw [HE.out.1, HE.out.2, HLN0.out]
    exact ⟨_, _, rfl, HO2.out, HB2.out⟩
  rcases ho : In 1 9 m.b with _ | _
  · have HK := Lib.hid hk
    have HJ := Lib.hid ho
    have HE := Lib.hid (ac_bad (l := l) (key := m.a) (.inr (.inr ho)))
    clear hl hk ho
    go_wp2_with (first | (go_at_call 40; with_reducible refine (in_q HK.out _).mono ?_; rintro e w9 ⟨rfl, rfl⟩) | (go_at_call 40; with_reducible refine (in_q HJ.out _).mono ?_; rintro e w9 ⟨rfl, rfl⟩) | fail)
    go_ret2
    rw [HE.out.1, HE.out.2, HLN0.out]
    exact ⟨_, _, rfl, HO2.out, HB2.out⟩
  have HL := Lib.hid hl
  have HK := Lib.hid hk
  have HJ := Lib.hid ho
  have hob := vers.in_yes ho
  have hn6 : n ≤ 6 := by rw [← HLN0.out]; exact lk_len hl
  clear hl hk ho
  by_cases hzo : z = m.b
  · have HE := Lib.hid (ac_own HL.out HK.out HJ.out (HZ.out.trans hzo))
    have t1 : (z != 0) = true := by simpa using (show z ≠ 0 by omega)
    have t2 : (z != m.b) = false := by simpa using hzo
    have t3 : (z == m.b) = true := by simpa using hzo
    have HZO := Lib.hid hzo
    clear hzo hob
    go_wp2_with (first | (go_at_call 40; with_reducible refine (in_q HK.out _).mono ?_; rintro e w9 ⟨rfl, rfl⟩) | (go_at_call 40; with_reducible refine (in_q HJ.out _).mono ?_; rintro e w9 ⟨rfl, rfl⟩) | fail)
    go_ret2
    rw [HE.out.1, HE.out.2, HLN0.out]
    exact ⟨_, _, rfl, HO2.out, HB2.out⟩
  by_cases hz0 : z = 0
  case neg =>
    have HE := Lib.hid (ac_off HL.out HK.out HJ.out (by rw [HZ.out]; exact hz0) (by rw [HZ.out]; exact hzo))
    have t1 : (z != 0) = true := by simpa using hz0
    have t2 : (z != m.b) = true := by simpa using hzo
    have t3 : (z == m.b) = false := by simpa using hzo
    clear hzo hz0 hob
    go_wp2_with (first | (go_at_call 40; with_reducible refine (in_q HK.out _).mono ?_; rintro e w9 ⟨rfl, rfl⟩) | (go_at_call 40; with_reducible refine (in_q HJ.out _).mono ?_; rintro e w9 ⟨rfl, rfl⟩) | fail)
    go_ret2
    rw [HE.out.1, HE.out.2, HLN0.out]
    exact ⟨_, _, rfl, HO2.out, HB2.out⟩
  have HE0 := Lib.hid (ac_new HL.out HK.out HJ.out (HZ.out.trans hz0))
  have t1 : (z != 0) = false := by simpa using hz0
  have t2 : (z != m.b) = true := by simpa using hzo
  have t3 : (z == m.b) = false := by simpa using hzo
  clear hzo hz0 hob
  go_wp2_with (first | (go_at_call 40; with_reducible refine (in_q HK.out _).mono ?_; rintro e w9 ⟨rfl, rfl⟩) | (go_at_call 40; with_reducible refine (in_q HJ.out _).mono ?_; rintro e w9 ⟨rfl, rfl⟩) | fail)
  clear t1 t2 t3
  obtain ⟨_, ⟨hv, hR⟩ | ⟨blk, cap, hv, hbase, hrw⟩⟩ := own_rw HO2.out
  · injection hv with e1 e2 e3
    subst e1 e2 e3
    subst hR
    go_loop [10] (fun i => i = .int .i64 0) (fun _ => 0)
    case atStart => rfl
    case round =>
      subst hrel
      have HE : Hid (acB [] m.a m.b = true ∧ acL [] m.a m.b = [] ++ m :: []) := HE0
      have HLN : Hid ((([] : List E2) ++ m :: []).length = 0 + 1 + 0) := Lib.hid rfl
      obtain ⟨W2, hW2⟩ : ∃ W, W = W2 := ⟨_, rfl⟩
      subst hW2
      have B2 := HB2
      go_wp2_with fail
      have hsA : W2.heap.size ≤ (W2.drew.alloc (.cells #[] 31)).heap.size := by simp
      have hsB : ((W2.drew.alloc (.cells #[] 31)).alloc (.cells #[.int .i64 m.a, .int .i64 m.b] 31)).heap.size = W2.heap.size + 1 + 1 := by simp
      have hsC : ((W2.drew.alloc (.cells #[.int .i64 m.a, .int .i64 m.b] 31)).alloc (.cells #[] 31)).heap.size = W2.heap.size + 1 + 1 := by simp
      have bA : Below W2.heap.size W2 (W2.drew.alloc (.cells #[] 31)) := ((Below.refl _ W2).drew).alloc (Nat.le_refl _) _
      have bB : Below W2.heap.size W2 ((W2.drew.alloc (.cells #[] 31)).alloc (.cells #[.int .i64 m.a, .int .i64 m.b] 31)) := bA.alloc (by simp) _
      have bC : Below W2.heap.size W2 ((W2.drew.alloc (.cells #[.int .i64 m.a, .int .i64 m.b] 31)).alloc (.cells #[] 31)) := (((Below.refl _ W2).drew).alloc (Nat.le_refl _) _).alloc (by simp) _
      have oA := own_empty W2.drew 31 W2.heap.size (Nat.le_refl _)
      have oB := own_keep oA (new1 (W2.drew.alloc (.cells #[] 31)) (.cells #[.int .i64 m.a, .int .i64 m.b] 31))
      have oC := own_empty (W2.drew.alloc (.cells #[.int .i64 m.a, .int .i64 m.b] 31)) 31 W2.heap.size (by simp)
      have mB := boxed (W2.drew.alloc (.cells #[] 31)) m 31
      have mC := (boxed W2.drew m 31).keep (B := W2.heap.size + 1) (Nat.lt_succ_self _) (below_le (new1 (W2.drew.alloc (.cells #[.int .i64 m.a, .int .i64 m.b] 31)) (.cells #[] 31)) (by simp))
      rw [show (W2.drew.alloc (.cells #[] 31)).heap.size = W2.heap.size + 1 by simp] at mB
      rw [show (W2.drew.alloc (.cells #[.int .i64 m.a, .int .i64 m.b] 31)).heap.size = W2.heap.size + 1 by simp] at oC
      have vP := Vs.nil_ W2 W2.heap.size (none)
      have vD := Vs.nil_ W2 W2.heap.size (none)
      obtain ⟨a3, e3, x3, a4, e4, x4, a5, e5, x5, rA3, rA4, rA5, OA, BA, BA3⟩ := r3k' (c1 := 0) (c2 := 0) _ m oA (vP.below bA) (vD.below bA) (Nat.le_refl _) (by omega) hsA
      obtain ⟨b3, f3, y3, b4, f4, y4, b5, f5, y5, rB3, rB4, rB5, OB, BB⟩ := r3k (c1 := 0) (c2 := 0) _ oB mB (by omega) (show W2.heap.size + 1 ≠ W2.heap.size by omega) (vP.below bB) (vD.below bB) (Nat.le_refl _) (by omega) (by omega)
      obtain ⟨d3, g3, z3, d4, g4, z4, d5, g5, z5, rC3, rC4, rC5, OC, BC⟩ := r3k (c1 := 0) (c2 := 0) _ oC mC (show W2.heap.size < _ by omega) (show W2.heap.size ≠ W2.heap.size + 1 by omega) (vP.below bC) (vD.below bC) (Nat.le_refl _) (by omega) (by omega)
      have FA := Lib.hid (And.intro (own_more OA (show w.heap.size ≤ W2.heap.size by omega)) (B2.out.trans ((bA.trans BA).mono (by omega))))
      have FB := Lib.hid (And.intro (own_more OB (show w.heap.size ≤ W2.heap.size by omega)) (B2.out.trans ((bB.trans BB).mono (by omega))))
      have FC := Lib.hid (And.intro (own_more OC (show w.heap.size ≤ W2.heap.size by omega)) (B2.out.trans ((bC.trans BC).mono (by omega))))
      clear BA3 OA OB OC BA BB BC oA oB oC mB mC vP vD bA bB bC hsA hsB hsC
      go_region_law (first | (refine step_append_run rfl (.tmp 58) (.tmp 61) 24 24 rfl _ _ (by simp [Act.eval, Act.put]) (by simp [Act.eval, Act.put]) rA3 ?_) | (refine step_append_run rfl (.tmp 58) (.tmp 61) 24 24 rfl _ _ (by simp [Act.eval, Act.put]) (by simp [Act.eval, Act.put]) rB3 ?_) | (refine step_append_run rfl (.tmp 58) (.tmp 61) 24 24 rfl _ _ (by simp [Act.eval, Act.put]) (by simp [Act.eval, Act.put]) rC3 ?_) | (refine step_append_run rfl (.tmp 62) (.tmp 66) 24 24 rfl _ _ (by simp [Act.eval, Act.put]) (by simp [Act.eval, Act.put]) rA4 ?_) | (refine step_append_run rfl (.tmp 62) (.tmp 66) 24 24 rfl _ _ (by simp [Act.eval, Act.put]) (by simp [Act.eval, Act.put]) rB4 ?_) | (refine step_append_run rfl (.tmp 62) (.tmp 66) 24 24 rfl _ _ (by simp [Act.eval, Act.put]) (by simp [Act.eval, Act.put]) rC4 ?_) | (refine step_append_run rfl (.tmp 67) (.tmp 70) 24 24 rfl _ _ (by simp [Act.eval, Act.put]) (by simp [Act.eval, Act.put]) rA5 ?_) | (refine step_append_run rfl (.tmp 67) (.tmp 70) 24 24 rfl _ _ (by simp [Act.eval, Act.put]) (by simp [Act.eval, Act.put]) rB5 ?_) | (refine step_append_run rfl (.tmp 67) (.tmp 70) 24 24 rfl _ _ (by simp [Act.eval, Act.put]) (by simp [Act.eval, Act.put]) rC5 ?_))
      all_goals go_wp2_with fail
      all_goals go_ret2
      all_goals rw [HE.out.1, HE.out.2, HLN.out]
      all_goals (first | exact ⟨_, _, rfl, FA.out.1, FA.out.2⟩ | exact ⟨_, _, rfl, FB.out.1, FB.out.2⟩ | exact ⟨_, _, rfl, FC.out.1, FC.out.2⟩)
  · injection hv with e1 e2 e3
    subst e1 e3
    have hcap : n ≤ c' := by obtain ⟨_, _, h, _⟩ := hrw; omega
    have hvs : Vs W2 W2.heap.size (some ⟨blk, 0, none⟩) n l := ⟨hln, fun _ => ⟨blk, 0, rfl, hrw.lt, hrw.at_⟩⟩
    have HV := Lib.hid hvs
    clear e2 hrw hvs
    go_loop [10] (fun i => ∃ k : Nat, k ≤ n ∧ i = .int .i64 k ∧ ∀ (j : Nat) (x : E2), j < k → l[j]? = some x → decide (x.a < m.a) = true) (fun i => n - (intOf i).toNat)
    case atStart => exact ⟨0, by omega, rfl, fun j x h => absurd h (by omega)⟩
    case round =>
      obtain ⟨k, hk, rfl, hP⟩ := hrel
      have HP := Lib.hid hP
      have B2 := HB2
      clear hP
      by_cases hlt : k < n
      · obtain ⟨b, o, y, hA, hbB, hx, a0, a1⟩ := HV.out.at_ hlt
        injection hA with hA
        injection hA with hA1 hA2
        subst hA1 hA2
        simp only [Nat.zero_add] at a0 a1
        have HX := Lib.hid hx
        clear hx
        by_cases hq : y.a < m.a
        · have tq : decide (y.a < m.a) = true := decide_eq_true hq
          go_wp2_with fail
          go_round
          case rel => exact ⟨k + 1, by omega, by go_num, all_step (p := fun x => decide (x.a < m.a)) HP.out HX.out tq⟩
          case measure => simp [intOf]; omega
        · have tq : decide (y.a < m.a) = false := decide_eq_false hq
          have HPS : Hid (posW m.a l = k) := Lib.hid (posW_is l k HP.out (by omega) fun x hx => by rw [HX.out] at hx; injection hx with hx; subst hx; exact hq)
          have HE : Hid (acB l m.a m.b = true ∧ acL l m.a m.b = l.take k ++ m :: l.drop k) := Lib.hid (by rw [← HPS.out]; exact HE0.out)
          have HLN : Hid ((l.take k ++ m :: l.drop k).length = k + 1 + (n - k)) := Lib.hid (by rw [List.length_append, List.length_cons, List.length_take, List.length_drop]; omega)
          have hck : ¬ c' = k := by omega
          have hkc : (k : Int) ≤ (c' : Int) := by omega
          have hkn : (k : Int) ≤ (n : Int) := by omega
          go_wp2_with fail
          clear a0 a1 tq
          have hsA : W2.heap.size ≤ (W2.drew.alloc (.cells #[] 31)).heap.size := by simp
          have hsB : ((W2.drew.alloc (.cells #[] 31)).alloc (.cells #[.int .i64 m.a, .int .i64 m.b] 31)).heap.size = W2.heap.size + 1 + 1 := by simp
          have hsC : ((W2.drew.alloc (.cells #[.int .i64 m.a, .int .i64 m.b] 31)).alloc (.cells #[] 31)).heap.size = W2.heap.size + 1 + 1 := by simp
          have bA : Below W2.heap.size W2 (W2.drew.alloc (.cells #[] 31)) := ((Below.refl _ W2).drew).alloc (Nat.le_refl _) _
          have bB : Below W2.heap.size W2 ((W2.drew.alloc (.cells #[] 31)).alloc (.cells #[.int .i64 m.a, .int .i64 m.b] 31)) := bA.alloc (by simp) _
          have bC : Below W2.heap.size W2 ((W2.drew.alloc (.cells #[.int .i64 m.a, .int .i64 m.b] 31)).alloc (.cells #[] 31)) := (((Below.refl _ W2).drew).alloc (Nat.le_refl _) _).alloc (by simp) _
          have oA := own_empty W2.drew 31 W2.heap.size (Nat.le_refl _)
          have oB := own_keep oA (new1 (W2.drew.alloc (.cells #[] 31)) (.cells #[.int .i64 m.a, .int .i64 m.b] 31))
          have oC := own_empty (W2.drew.alloc (.cells #[.int .i64 m.a, .int .i64 m.b] 31)) 31 W2.heap.size (by simp)
          have mB := boxed (W2.drew.alloc (.cells #[] 31)) m 31
          have mC := (boxed W2.drew m 31).keep (B := W2.heap.size + 1) (Nat.lt_succ_self _) (below_le (new1 (W2.drew.alloc (.cells #[.int .i64 m.a, .int .i64 m.b] 31)) (.cells #[] 31)) (by simp))
          rw [show (W2.drew.alloc (.cells #[] 31)).heap.size = W2.heap.size + 1 by simp] at mB
          rw [show (W2.drew.alloc (.cells #[.int .i64 m.a, .int .i64 m.b] 31)).heap.size = W2.heap.size + 1 by simp] at oC
          have vP := Vs.take (k := k) HV.out (by omega)
          have vD := Vs.drop (k := k) HV.out (by omega)
          obtain ⟨a3, e3, x3, a4, e4, x4, a5, e5, x5, rA3, rA4, rA5, OA, BA, BA3⟩ := r3k' (c1 := c') (c2 := c' - k) _ m oA (vP.below bA) (vD.below bA) (Nat.le_refl _) (by omega) hsA
          obtain ⟨b3, f3, y3, b4, f4, y4, b5, f5, y5, rB3, rB4, rB5, OB, BB⟩ := r3k (c1 := c') (c2 := c' - k) _ oB mB (by omega) (show W2.heap.size + 1 ≠ W2.heap.size by omega) (vP.below bB) (vD.below bB) (Nat.le_refl _) (by omega) (by omega)
          obtain ⟨d3, g3, z3, d4, g4, z4, d5, g5, z5, rC3, rC4, rC5, OC, BC⟩ := r3k (c1 := c') (c2 := c' - k) _ oC mC (show W2.heap.size < _ by omega) (show W2.heap.size ≠ W2.heap.size + 1 by omega) (vP.below bC) (vD.below bC) (Nat.le_refl _) (by omega) (by omega)
          have FA := Lib.hid (And.intro (own_more OA (show w.heap.size ≤ W2.heap.size by omega)) (B2.out.trans ((bA.trans BA).mono (by omega))))
          have FB := Lib.hid (And.intro (own_more OB (show w.heap.size ≤ W2.heap.size by omega)) (B2.out.trans ((bB.trans BB).mono (by omega))))
          have FC := Lib.hid (And.intro (own_more OC (show w.heap.size ≤ W2.heap.size by omega)) (B2.out.trans ((bC.trans BC).mono (by omega))))
          clear BA3 OA OB OC BA BB BC oA oB oC mB mC vP vD bA bB bC hsA hsB hsC
          go_region_law (first | (refine step_append_run rfl (.tmp 58) (.tmp 61) 24 24 rfl _ _ (by simp [Act.eval, Act.put]) (by simp [Act.eval, Act.put]) rA3 ?_) | (refine step_append_run rfl (.tmp 58) (.tmp 61) 24 24 rfl _ _ (by simp [Act.eval, Act.put]) (by simp [Act.eval, Act.put]) rB3 ?_) | (refine step_append_run rfl (.tmp 58) (.tmp 61) 24 24 rfl _ _ (by simp [Act.eval, Act.put]) (by simp [Act.eval, Act.put]) rC3 ?_) | (refine step_append_run rfl (.tmp 62) (.tmp 66) 24 24 rfl _ _ (by simp [Act.eval, Act.put]) (by simp [Act.eval, Act.put]) rA4 ?_) | (refine step_append_run rfl (.tmp 62) (.tmp 66) 24 24 rfl _ _ (by simp [Act.eval, Act.put]) (by simp [Act.eval, Act.put]) rB4 ?_) | (refine step_append_run rfl (.tmp 62) (.tmp 66) 24 24 rfl _ _ (by simp [Act.eval, Act.put]) (by simp [Act.eval, Act.put]) rC4 ?_) | (refine step_append_run rfl (.tmp 67) (.tmp 70) 24 24 rfl _ _ (by simp [Act.eval, Act.put]) (by simp [Act.eval, Act.put]) rA5 ?_) | (refine step_append_run rfl (.tmp 67) (.tmp 70) 24 24 rfl _ _ (by simp [Act.eval, Act.put]) (by simp [Act.eval, Act.put]) rB5 ?_) | (refine step_append_run rfl (.tmp 67) (.tmp 70) 24 24 rfl _ _ (by simp [Act.eval, Act.put]) (by simp [Act.eval, Act.put]) rC5 ?_))
          all_goals go_wp2_with fail
          all_goals go_ret2
          all_goals rw [HE.out.1, HE.out.2, HLN.out]
          all_goals (first | exact ⟨_, _, rfl, FA.out.1, FA.out.2⟩ | exact ⟨_, _, rfl, FB.out.1, FB.out.2⟩ | exact ⟨_, _, rfl, FC.out.1, FC.out.2⟩)
      · obtain rfl : n = k := by omega
        have HPS : Hid (posW m.a l = n) := Lib.hid (posW_is l n HP.out (by omega) fun x hx => by rw [List.getElem?_eq_none (by omega)] at hx; cases hx)
        have HE : Hid (acB l m.a m.b = true ∧ acL l m.a m.b = l ++ m :: []) := Lib.hid (by have := HE0.out; rw [HPS.out, List.take_of_length_le (by omega), List.drop_of_length_le (by omega)] at this; exact this)
        have HLN : Hid ((l ++ m :: []).length = n + 1 + 0) := Lib.hid (by rw [List.length_append, List.length_cons, List.length_nil]; omega)
        have hkc : (n : Int) ≤ (c' : Int) := by omega
        by_cases hcn : c' = n
        · subst hcn
          go_wp2_with fail
          have hsA : W2.heap.size ≤ (W2.drew.alloc (.cells #[] 31)).heap.size := by simp
          have hsB : ((W2.drew.alloc (.cells #[] 31)).alloc (.cells #[.int .i64 m.a, .int .i64 m.b] 31)).heap.size = W2.heap.size + 1 + 1 := by simp
          have hsC : ((W2.drew.alloc (.cells #[.int .i64 m.a, .int .i64 m.b] 31)).alloc (.cells #[] 31)).heap.size = W2.heap.size + 1 + 1 := by simp
          have bA : Below W2.heap.size W2 (W2.drew.alloc (.cells #[] 31)) := ((Below.refl _ W2).drew).alloc (Nat.le_refl _) _
          have bB : Below W2.heap.size W2 ((W2.drew.alloc (.cells #[] 31)).alloc (.cells #[.int .i64 m.a, .int .i64 m.b] 31)) := bA.alloc (by simp) _
          have bC : Below W2.heap.size W2 ((W2.drew.alloc (.cells #[.int .i64 m.a, .int .i64 m.b] 31)).alloc (.cells #[] 31)) := (((Below.refl _ W2).drew).alloc (Nat.le_refl _) _).alloc (by simp) _
          have oA := own_empty W2.drew 31 W2.heap.size (Nat.le_refl _)
          have oB := own_keep oA (new1 (W2.drew.alloc (.cells #[] 31)) (.cells #[.int .i64 m.a, .int .i64 m.b] 31))
          have oC := own_empty (W2.drew.alloc (.cells #[.int .i64 m.a, .int .i64 m.b] 31)) 31 W2.heap.size (by simp)
          have mB := boxed (W2.drew.alloc (.cells #[] 31)) m 31
          have mC := (boxed W2.drew m 31).keep (B := W2.heap.size + 1) (Nat.lt_succ_self _) (below_le (new1 (W2.drew.alloc (.cells #[.int .i64 m.a, .int .i64 m.b] 31)) (.cells #[] 31)) (by simp))
          rw [show (W2.drew.alloc (.cells #[] 31)).heap.size = W2.heap.size + 1 by simp] at mB
          rw [show (W2.drew.alloc (.cells #[.int .i64 m.a, .int .i64 m.b] 31)).heap.size = W2.heap.size + 1 by simp] at oC
          have vP := HV.out
          have vD := Vs.nil_ W2 W2.heap.size (some ⟨blk, 0, none⟩)
          obtain ⟨a3, e3, x3, a4, e4, x4, a5, e5, x5, rA3, rA4, rA5, OA, BA, BA3⟩ := r3k' (c1 := c') (c2 := 0) _ m oA (vP.below bA) (vD.below bA) (Nat.le_refl _) (by omega) hsA
          obtain ⟨b3, f3, y3, b4, f4, y4, b5, f5, y5, rB3, rB4, rB5, OB, BB⟩ := r3k (c1 := c') (c2 := 0) _ oB mB (by omega) (show W2.heap.size + 1 ≠ W2.heap.size by omega) (vP.below bB) (vD.below bB) (Nat.le_refl _) (by omega) (by omega)
          obtain ⟨d3, g3, z3, d4, g4, z4, d5, g5, z5, rC3, rC4, rC5, OC, BC⟩ := r3k (c1 := c') (c2 := 0) _ oC mC (show W2.heap.size < _ by omega) (show W2.heap.size ≠ W2.heap.size + 1 by omega) (vP.below bC) (vD.below bC) (Nat.le_refl _) (by omega) (by omega)
          have FA := Lib.hid (And.intro (own_more OA (show w.heap.size ≤ W2.heap.size by omega)) (B2.out.trans ((bA.trans BA).mono (by omega))))
          have FB := Lib.hid (And.intro (own_more OB (show w.heap.size ≤ W2.heap.size by omega)) (B2.out.trans ((bB.trans BB).mono (by omega))))
          have FC := Lib.hid (And.intro (own_more OC (show w.heap.size ≤ W2.heap.size by omega)) (B2.out.trans ((bC.trans BC).mono (by omega))))
          clear BA3 OA OB OC BA BB BC oA oB oC mB mC vP vD bA bB bC hsA hsB hsC
          go_region_law (first | (refine step_append_run rfl (.tmp 58) (.tmp 61) 24 24 rfl _ _ (by simp [Act.eval, Act.put]) (by simp [Act.eval, Act.put]) rA3 ?_) | (refine step_append_run rfl (.tmp 58) (.tmp 61) 24 24 rfl _ _ (by simp [Act.eval, Act.put]) (by simp [Act.eval, Act.put]) rB3 ?_) | (refine step_append_run rfl (.tmp 58) (.tmp 61) 24 24 rfl _ _ (by simp [Act.eval, Act.put]) (by simp [Act.eval, Act.put]) rC3 ?_) | (refine step_append_run rfl (.tmp 62) (.tmp 66) 24 24 rfl _ _ (by simp [Act.eval, Act.put]) (by simp [Act.eval, Act.put]) rA4 ?_) | (refine step_append_run rfl (.tmp 62) (.tmp 66) 24 24 rfl _ _ (by simp [Act.eval, Act.put]) (by simp [Act.eval, Act.put]) rB4 ?_) | (refine step_append_run rfl (.tmp 62) (.tmp 66) 24 24 rfl _ _ (by simp [Act.eval, Act.put]) (by simp [Act.eval, Act.put]) rC4 ?_) | (refine step_append_run rfl (.tmp 67) (.tmp 70) 24 24 rfl _ _ (by simp [Act.eval, Act.put]) (by simp [Act.eval, Act.put]) rA5 ?_) | (refine step_append_run rfl (.tmp 67) (.tmp 70) 24 24 rfl _ _ (by simp [Act.eval, Act.put]) (by simp [Act.eval, Act.put]) rB5 ?_) | (refine step_append_run rfl (.tmp 67) (.tmp 70) 24 24 rfl _ _ (by simp [Act.eval, Act.put]) (by simp [Act.eval, Act.put]) rC5 ?_))
          all_goals go_wp2_with fail
          all_goals go_ret2
          all_goals rw [HE.out.1, HE.out.2, HLN.out]
          all_goals (first | exact ⟨_, _, rfl, FA.out.1, FA.out.2⟩ | exact ⟨_, _, rfl, FB.out.1, FB.out.2⟩ | exact ⟨_, _, rfl, FC.out.1, FC.out.2⟩)
        · go_wp2_with fail
          have hsA : W2.heap.size ≤ (W2.drew.alloc (.cells #[] 31)).heap.size := by simp
          have hsB : ((W2.drew.alloc (.cells #[] 31)).alloc (.cells #[.int .i64 m.a, .int .i64 m.b] 31)).heap.size = W2.heap.size + 1 + 1 := by simp
          have hsC : ((W2.drew.alloc (.cells #[.int .i64 m.a, .int .i64 m.b] 31)).alloc (.cells #[] 31)).heap.size = W2.heap.size + 1 + 1 := by simp
          have bA : Below W2.heap.size W2 (W2.drew.alloc (.cells #[] 31)) := ((Below.refl _ W2).drew).alloc (Nat.le_refl _) _
          have bB : Below W2.heap.size W2 ((W2.drew.alloc (.cells #[] 31)).alloc (.cells #[.int .i64 m.a, .int .i64 m.b] 31)) := bA.alloc (by simp) _
          have bC : Below W2.heap.size W2 ((W2.drew.alloc (.cells #[.int .i64 m.a, .int .i64 m.b] 31)).alloc (.cells #[] 31)) := (((Below.refl _ W2).drew).alloc (Nat.le_refl _) _).alloc (by simp) _
          have oA := own_empty W2.drew 31 W2.heap.size (Nat.le_refl _)
          have oB := own_keep oA (new1 (W2.drew.alloc (.cells #[] 31)) (.cells #[.int .i64 m.a, .int .i64 m.b] 31))
          have oC := own_empty (W2.drew.alloc (.cells #[.int .i64 m.a, .int .i64 m.b] 31)) 31 W2.heap.size (by simp)
          have mB := boxed (W2.drew.alloc (.cells #[] 31)) m 31
          have mC := (boxed W2.drew m 31).keep (B := W2.heap.size + 1) (Nat.lt_succ_self _) (below_le (new1 (W2.drew.alloc (.cells #[.int .i64 m.a, .int .i64 m.b] 31)) (.cells #[] 31)) (by simp))
          rw [show (W2.drew.alloc (.cells #[] 31)).heap.size = W2.heap.size + 1 by simp] at mB
          rw [show (W2.drew.alloc (.cells #[.int .i64 m.a, .int .i64 m.b] 31)).heap.size = W2.heap.size + 1 by simp] at oC
          have vP := HV.out
          have vD := Vs.nil_ W2 W2.heap.size (some ⟨blk, 0 + n * 2, none⟩)
          obtain ⟨a3, e3, x3, a4, e4, x4, a5, e5, x5, rA3, rA4, rA5, OA, BA, BA3⟩ := r3k' (c1 := c') (c2 := c' - n) _ m oA (vP.below bA) (vD.below bA) (Nat.le_refl _) (by omega) hsA
          obtain ⟨b3, f3, y3, b4, f4, y4, b5, f5, y5, rB3, rB4, rB5, OB, BB⟩ := r3k (c1 := c') (c2 := c' - n) _ oB mB (by omega) (show W2.heap.size + 1 ≠ W2.heap.size by omega) (vP.below bB) (vD.below bB) (Nat.le_refl _) (by omega) (by omega)
          obtain ⟨d3, g3, z3, d4, g4, z4, d5, g5, z5, rC3, rC4, rC5, OC, BC⟩ := r3k (c1 := c') (c2 := c' - n) _ oC mC (show W2.heap.size < _ by omega) (show W2.heap.size ≠ W2.heap.size + 1 by omega) (vP.below bC) (vD.below bC) (Nat.le_refl _) (by omega) (by omega)
          have FA := Lib.hid (And.intro (own_more OA (show w.heap.size ≤ W2.heap.size by omega)) (B2.out.trans ((bA.trans BA).mono (by omega))))
          have FB := Lib.hid (And.intro (own_more OB (show w.heap.size ≤ W2.heap.size by omega)) (B2.out.trans ((bB.trans BB).mono (by omega))))
          have FC := Lib.hid (And.intro (own_more OC (show w.heap.size ≤ W2.heap.size by omega)) (B2.out.trans ((bC.trans BC).mono (by omega))))
          clear BA3 OA OB OC BA BB BC oA oB oC mB mC vP vD bA bB bC hsA hsB hsC
          go_region_law (first | (refine step_append_run rfl (.tmp 58) (.tmp 61) 24 24 rfl _ _ (by simp [Act.eval, Act.put]) (by simp [Act.eval, Act.put]) rA3 ?_) | (refine step_append_run rfl (.tmp 58) (.tmp 61) 24 24 rfl _ _ (by simp [Act.eval, Act.put]) (by simp [Act.eval, Act.put]) rB3 ?_) | (refine step_append_run rfl (.tmp 58) (.tmp 61) 24 24 rfl _ _ (by simp [Act.eval, Act.put]) (by simp [Act.eval, Act.put]) rC3 ?_) | (refine step_append_run rfl (.tmp 62) (.tmp 66) 24 24 rfl _ _ (by simp [Act.eval, Act.put]) (by simp [Act.eval, Act.put]) rA4 ?_) | (refine step_append_run rfl (.tmp 62) (.tmp 66) 24 24 rfl _ _ (by simp [Act.eval, Act.put]) (by simp [Act.eval, Act.put]) rB4 ?_) | (refine step_append_run rfl (.tmp 62) (.tmp 66) 24 24 rfl _ _ (by simp [Act.eval, Act.put]) (by simp [Act.eval, Act.put]) rC4 ?_) | (refine step_append_run rfl (.tmp 67) (.tmp 70) 24 24 rfl _ _ (by simp [Act.eval, Act.put]) (by simp [Act.eval, Act.put]) rA5 ?_) | (refine step_append_run rfl (.tmp 67) (.tmp 70) 24 24 rfl _ _ (by simp [Act.eval, Act.put]) (by simp [Act.eval, Act.put]) rB5 ?_) | (refine step_append_run rfl (.tmp 67) (.tmp 70) 24 24 rfl _ _ (by simp [Act.eval, Act.put]) (by simp [Act.eval, Act.put]) rC5 ?_))
          all_goals go_wp2_with fail
          all_goals go_ret2
          all_goals rw [HE.out.1, HE.out.2, HLN.out]
          all_goals (first | exact ⟨_, _, rfl, FA.out.1, FA.out.2⟩ | exact ⟨_, _, rfl, FB.out.1, FB.out.2⟩ | exact ⟨_, _, rfl, FC.out.1, FC.out.2⟩)
theorem spec_acq {w : World} {B n c : Nat} {A : Option Addr} {l : List E2} (key o : Int) (hn : n ≤ 1048576) (h1 : Vs w B A n l) (hB : B ≤ w.heap.size) :
    Calls Try.prog 12 #[.slice A n c, .int .i64 key, .int .i64 o] w fun e w' => ∃ A' c', e = .returned (.tuple #[.slice A' (acL l key o).length c', .bool (acB l key o)]) ∧ w'.ownsRow w.heap.size 31 2 (.slice A' (acL l key o).length c') (acL l key o).length (flat (acL l key o)) ∧ Below w.heap.size w w' := spec_acqm ⟨key, o⟩ hn h1 hB
end Go.Proofs.Ythbbpfgjbidbhaa.lkq
