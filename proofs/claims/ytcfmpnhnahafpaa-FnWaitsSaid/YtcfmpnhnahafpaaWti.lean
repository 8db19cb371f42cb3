/- slices.Insert of one wait into a row of the call's own. -/
import Derived.Test.YtcfmpnhnahafpaaWtd
import Derived.Test.YtcfmpnhnahafpaaAo
import Derived.Lib.AppendZerosOnto
import Derived.Lib.Overlaps
import Derived.Shelf.Abstract
namespace Go.Proofs.Ytcfmpnhnahafpaa.wti
open Go.ChangeShapes Go.WideShapes Go.ChangeAt Go.RowKit
open Go.Proofs.Ytcfmpnhnahafpaa.el2 Go.Proofs.Ytcfmpnhnahafpaa.tx Go.Proofs.Ytcfmpnhnahafpaa.ap Go.Proofs.Ytcfmpnhnahafpaa.bx Go.Proofs.Ytcfmpnhnahafpaa.cl Go.Proofs.Ytcfmpnhnahafpaa.ro
open Go.Proofs.Ytcfmpnhnahafpaa.ao (Vs.take Vs.drop)
open Go.Proofs.Ytcfmpnhnahafpaa.wtd (info_wt)
set_option linter.unusedVariables false
set_option linter.unusedSimpArgs false
/-- an append whose run is known, as one step of a region that draws -/
theorem step_append_run {P : Program} {ops : Array Oper} {o : Oper} {a : Act} {w : World} {K : Act → World → Prop} {Q : Exit → Act → World → Prop} {E : Prop} (hgd : o.guard = none) (s x : Operand) (t t' : TypeId)
    (hop : o.op = .call { callee := .builtin .append, args := #[s, x], argTypes := #[t, t'] }) (v u : Value) (hs : a.eval s = v) (hx : a.eval x = u) {v' : Value} {w' : World} (hr : (Builtin.append_ #[t, t'] o.type #[v, u]).run P w = .ok v' w') (hK : K (a.put o.dst v') w') :
    if Region.wanted o (yielded ops a.tmps) = true then Oper.wp P o a w K Q else E := by
  have hw : Region.wanted o (yielded ops a.tmps) = true := by simp [Region.wanted, hgd]
  rw [if_pos hw]
  unfold Oper.wp
  simp [execOp, hop, resolve, invoke, builtin, hs, hx, hr, Result.andThen]
  exact hK
/-- an append onto a row of the call's own keeps what lies below, and what lies in another block -/
theorem app_x (V : World) {base k n c0 c B : Nat} {A0 A : Option Addr} {xs l : List E2} (ho : V.ownsRow base 36 2 (.slice A0 k c0) k (flat xs)) (hv : Vs V B A n l) (hk : k + n ≤ 4194304) (hb : base ≤ V.heap.size) :
    ∃ A' c' V', (Builtin.append_ #[24, 24] 24 #[.slice A0 k c0, .slice A n c]).run Try.prog V = .ok (.slice A' (k + n) c') V' ∧ V'.ownsRow base 36 2 (.slice A' (k + n) c') (k + n) (flat (xs ++ l)) ∧ V.grownBy V' (Value.slice A0 k c0).ownBlock ∧ Below base V V' := by
  obtain ⟨i0, hi, hz, hs, hby⟩ := info_parts info_wt
  obtain ⟨v', w', hr, ho', hg⟩ := run_append_e2 (P := Try.prog) V 24 24 36 i0 _ Try.underlying24 hi hz hs hby rfl ho hv (c := c) hk hb
  have hl : (xs ++ l).length = k + n := by have := ho'.1; rw [flat_len] at this; omega
  obtain ⟨A', c', rfl, _⟩ := own_vs ho' hl
  refine ⟨A', c', w', hr, ho', hg, ((Below.refl base V).grown hg hb fun q hq => ?_)⟩
  rcases ho.2 with ⟨e, _⟩ | ⟨g, cap, cur, e, hg', _⟩
  · rw [e] at hq; simp [Value.ownBlock] at hq
  · rw [e] at hq; simp [Value.ownBlock] at hq; omega
theorem one_vs {w : World} {q : Nat} {m : E2} (h : At w q 0 m) : Vs w (q + 1) (some ⟨q, 0, none⟩) 1 [m] := ⟨rfl, fun _ => ⟨q, 0, rfl, by omega, fun k z hz => by
  match k, hz with
  | 0, hz => injection hz with hz; subst hz; exact h⟩⟩
theorem wp_copy_run {P : Program} (w : World) {o : Oper} {a : Act} {K : Act → World → Prop} {Q : Exit → Act → World → Prop} (d s : Operand) (t t' : TypeId)
    (ho : o.op = .call { callee := .builtin .copy, args := #[d, s], argTypes := #[t, t'] }) (v u : Value) (hd : a.eval d = v) (hs : a.eval s = u) {v' : Value} {w' : World}
    (hr : (Builtin.copy_ #[t, t'] o.type #[v, u]).run P w = .ok v' w') (h : K (a.put o.dst v') w') : o.wp P a w K Q := by
  unfold Oper.wp execOp
  simp only [ho, resolve, invoke, builtin, Sem.run_bind, Sem.run_pure, Result.andThen_ok, List.map_toArray, List.map_cons, List.map_nil, hd, hs, hr]
  exact h
theorem wpList_copy_run {P : Program} (w : World) {ops : Array Oper} {rest : List Oper} {o : Oper} {a : Act} {Q : Exit → Act → World → Prop} (hgd : o.guard = none) (d s : Operand) (t t' : TypeId)
    (ho : o.op = .call { callee := .builtin .copy, args := #[d, s], argTypes := #[t, t'] }) (v u : Value) (hd : a.eval d = v) (hs : a.eval s = u) {v' : Value} {w' : World}
    (hr : (Builtin.copy_ #[t, t'] o.type #[v, u]).run P w = .ok v' w') (h : wpList P ops Q rest (a.put o.dst v') w') : wpList P ops Q (o :: rest) a w :=
  wpList_plain hgd fun _ hK => wp_copy_run w d s t t' ho v u hd hs hr (hK _ _ h)
theorem step_copy_run {P : Program} {ops : Array Oper} {o : Oper} {a : Act} {w : World} {K : Act → World → Prop} {Q : Exit → Act → World → Prop} {E : Prop}
    (hg : o.guard = none) (d x : Operand) (dT sT : TypeId) (hop : o.op = Op.call { callee := Callee.builtin Builtin.copy, args := #[d, x], argTypes := #[dT, sT] })
    (v u : Value) (hd : a.eval d = v) (hx : a.eval x = u) {v' : Value} {w' : World} (hr : (Builtin.copy_ #[dT, sT] o.type #[v, u]).run P w = .ok v' w') (hK : K (a.put o.dst v') w') :
    if Region.wanted o (yielded ops a.tmps) = true then Oper.wp P o a w K Q else E := by
  have hw : Region.wanted o (yielded ops a.tmps) = true := by simp [Region.wanted, hg]
  rw [if_pos hw]
  unfold Oper.wp
  simp [execOp, hop, resolve, invoke, builtin, hd, hx, hr, Result.andThen]
  exact hK
/-- a copy of a list into a row -/
theorem copy_inw (w : World) {g cap k dl dc sl sc B : Nat} {A : Option Addr} {l l' p : List E2} {n : Nat} (h : Rw w 36 g cap l) (hp : Vs w B A n p) (hn : 0 < n) (hm : n = Nat.min sl dl) (hk : k + n ≤ cap)
    (hl : ∀ C : List Value, C.take (l.length * 2) = flat l → C.length = cap * 2 → (C.take (k * 2) ++ flat p ++ C.drop (k * 2 + (flat p).length)).length = cap * 2 ∧ (C.take (k * 2) ++ flat p ++ C.drop (k * 2 + (flat p).length)).take (l'.length * 2) = flat l') (hl' : l'.length ≤ cap) :
    ∃ w', (Builtin.copy_ #[24, 24] 3 #[.slice (some ⟨g, k * 2, none⟩) dl dc, .slice A sl sc]).run Try.prog w = .ok (goInt n) w' ∧ Rw w' 36 g cap l' ∧ Off g w w' := by
  obtain ⟨i0, hi, hz, hs, hby⟩ := info_parts info_wt
  obtain ⟨cur, h1, h2, h3, h4, h5⟩ := h
  obtain ⟨b, o, rfl, hb, hx⟩ := hp.2 hn
  obtain ⟨e1, e2⟩ := hl cur.toList h5 (by simpa using h4)
  have hpl : (flat p).length = n * 2 := by rw [flat_len, hp.1]
  exact ⟨_, run_copy_e2 (P := Try.prog) w 24 24 3 36 g (k * 2) dl dc n sl sc ⟨b, o, none⟩ cur 36 (flat p) Try.underlying24 hi hs h1 hm hpl (at_cells hx) (by rw [hpl]; omega) (flat_one p), Rw.lay (l := l) h1 h3 e1 e2 hl', set_off _⟩
theorem zc (w : World) (e : TypeId) (X : List E2) (k j G : Nat) (hG : G ≤ maxLen) (hl : X.length + k + j = G) :
    Rw (w.alloc (.cells ((flat X).toArray ++ Builtin.zeroCells #[.int .i64 0, .int .i64 0] k ++ Builtin.zeroCells #[.int .i64 0, .int .i64 0] j) e)) e w.heap.size G (X ++ List.replicate k ⟨0, 0⟩) := by
  refine ⟨_, heap_alloc_new w _, by simp; omega, hG, ?_, ?_⟩
  · have e1 : (flat X).length = X.length * 2 := flat_len X
    have e2 : (Builtin.zeroCells #[.int .i64 0, .int .i64 0] k).toList.length = k * 2 := by rw [zero_cells, flat_len, List.length_replicate]
    have e3 : (Builtin.zeroCells #[.int .i64 0, .int .i64 0] j).toList.length = j * 2 := by rw [zero_cells, flat_len, List.length_replicate]
    rw [Array.length_toList] at e2 e3
    simp only [Array.size_append, List.size_toArray]
    omega
  · simp only [Array.toList_append, zero_cells, ← flat_app]
    rw [flat_take, List.take_append_of_le_length (by simp), List.take_of_length_le (by simp)]
section
variable {l : List E2} {m : E2} {i n : Nat}
theorem ins_a (hl : l.length = n) (hi : i < n) : ((l.take (i + 1) ++ l.drop i).take i ++ [m] ++ (l.take (i + 1) ++ l.drop i).drop (i + 1)) = l.take i ++ m :: l.drop i := by
  rw [List.take_append_of_le_length (by rw [List.length_take]; omega), List.take_take, show min i (i + 1) = i by omega, List.drop_append, List.drop_of_length_le (by rw [List.length_take]; omega), List.length_take, show i + 1 - min (i + 1) l.length = 0 by omega]
  simp
theorem ins_b (hl : l.length = n) (hi : i < n) : ((l.take i ++ List.replicate (n + 1 - i) (⟨0, 0⟩ : E2)).take i ++ [m] ++ (l.take i ++ List.replicate (n + 1 - i) (⟨0, 0⟩ : E2)).drop (i + 1)) = l.take i ++ m :: List.replicate (n - i) (⟨0, 0⟩ : E2) := by
  have e : (l.take i).length = i := by rw [List.length_take]; omega
  rw [List.take_append_of_le_length (by omega), List.take_take, Nat.min_self, List.drop_append, List.drop_of_length_le (by omega), e, List.drop_replicate]
  rw [show n + 1 - i - (i + 1 - i) = n - i by omega]
  simp
theorem ins_c (hl : l.length = n) (hi : i < n) : ((l.take i ++ m :: List.replicate (n - i) (⟨0, 0⟩ : E2)).take (i + 1) ++ l.drop i ++ (l.take i ++ m :: List.replicate (n - i) (⟨0, 0⟩ : E2)).drop (i + 1 + (l.drop i).length)) = l.take i ++ m :: l.drop i := by
  have e : (l.take i).length = i := by rw [List.length_take]; omega
  have e2 : (l.take i ++ m :: List.replicate (n - i) (⟨0, 0⟩ : E2)).drop (i + 1 + (l.drop i).length) = [] := by
    apply List.drop_of_length_le
    simp
    omega
  have e3 : (l.take i ++ m :: List.replicate (n - i) (⟨0, 0⟩ : E2)).take (i + 1) = l.take i ++ [m] := by
    rw [List.take_append, e, List.take_of_length_le (by omega), show i + 1 - i = 1 by omega]
    simp
  rw [e2, e3]
  simp
end
theorem drop_row {w : World} {e : TypeId} {g cap n i : Nat} {l : List E2} (h : Rw w e g cap l) (hn : l.length = n) (hi : i ≤ n) : Vs w w.heap.size (some ⟨g, i * 2, none⟩) (n - i) (l.drop i) := by
  have := Vs.drop (k := i) (B := w.heap.size) (b := g) (o := 0) (n := n) (w := w) (l := l) ⟨hn, fun _ => ⟨g, 0, rfl, h.lt, h.at_⟩⟩ hi
  rw [Nat.zero_add] at this
  exact this
theorem not_frozen_off {w : World} {q : Nat} {cs : Array Value} {t : TypeId} (h : w.heap[q]? = some (.cells cs t (0, 0))) (k : Nat) : w.frozen? ⟨q, k, none⟩ = false := by simp [World.frozen?, h]
/-- the slice's capacity is at hand -/
theorem own_capw {w : World} {base n c : Nat} {A : Option Addr} {l : List E2} (h : w.ownsRow base 36 2 (.slice A n c) n (flat l)) (h0 : 0 < n) : ∃ g, A = some ⟨g, 0, none⟩ ∧ base ≤ g ∧ Rw w 36 g c l ∧ l.length = n ∧ n ≤ c ∧ c ≤ maxLen := by
  obtain ⟨hl, ⟨hv, hn⟩ | ⟨g, cap, hv, hb, hr⟩⟩ := own_rw h
  · subst hn; simp at hl; omega
  · injection hv with e1 e2 e3
    subst e1 e3
    obtain ⟨cur, h1, h2, h3, _⟩ := id hr
    exact ⟨g, rfl, hb, hr, hl, by omega, h3⟩
set_option maxRecDepth 100000 in
set_option maxHeartbeats 1600000 in
/-- at the end -/
theorem insx_end {w : World} {base n c q : Nat} {A : Option Addr} {l : List E2} {m : E2} (ho : w.ownsRow base 36 2 (.slice A n c) n (flat l)) (hn : n ≤ 2097152) (hm : At w q 0 m) (hb : base ≤ w.heap.size) :
    Calls Try.prog 36 #[.slice A n c, .int .i64 n, .slice (some ⟨q, 0, none⟩) 1 1] w fun e w' => ∃ A' c', e = .returned (.slice A' (n + 1) c') ∧ w'.ownsRow base 36 2 (.slice A' (n + 1) c') (n + 1) (flat (l ++ [m])) ∧ w.grownBy w' (Value.slice A n c).ownBlock := by
  obtain ⟨A', c', w', hr, ho', hg, hb'⟩ := app_x (c := 1) w ho (one_vs hm) (by omega) hb
  have O := Lib.hid ho'
  have G := Lib.hid hg
  have hnn : (n : Int) ≤ (n : Int) := Int.le_refl _
  have ho2 := ho.2
  clear ho' hg hb'
  go_enter Try.func36, Try.ntmps36
  rcases ho2 with ⟨hv, h0⟩ | ⟨g, cap, cur, hv, _⟩
  · injection hv with e1 e2 e3
    subst e1 e2 e3
    go_wp2_with (at_builtin; refine Lib.wpList_append_run _ rfl _ _ 24 24 rfl _ _ rfl rfl _ _ hr ?_)
    all_goals (go_ret; exact ⟨_, _, rfl, O.out, G.out⟩)
  · injection hv with e1 e2 e3
    subst e1 e3
    go_wp2_with (at_builtin; refine Lib.wpList_append_run _ rfl _ _ 24 24 rfl _ _ rfl rfl _ _ hr ?_)
    all_goals (go_ret; exact ⟨_, _, rfl, O.out, G.out⟩)
set_option maxRecDepth 100000 in
set_option maxHeartbeats 1600000 in
/-- in place -/
theorem insx_room {w : World} {n c g q i : Nat} {l : List E2} {m : E2} (hr : Rw w 36 g c l) (hl : l.length = n) (hn : n ≤ 2097152) (hi : i < n) (hc : n + 1 ≤ c) (hc2 : c ≤ maxLen) (hm : At w q 0 m) (hq : w.heap[q]? = some (.cells #[.int .i64 m.a, .int .i64 m.b] 36 (0, 0))) (hqg : q ≠ g) (hqs : q < w.heap.size) :
    Calls Try.prog 36 #[.slice (some ⟨g, 0, none⟩) n c, .int .i64 i, .slice (some ⟨q, 0, none⟩) 1 1] w fun e w' => e = .returned (.slice (some ⟨g, 0, none⟩) (n + 1) c) ∧ Rw w' 36 g c (l.take i ++ m :: l.drop i) ∧ w.grownBy w' (some g) := by
  unfold maxLen at hc2
  obtain ⟨hsg, hfg⟩ := shape_rw hr
  have hov : ∀ lb cb, (callFunc 49 #[.slice (some ⟨q, 0, none⟩) 1 1, .slice (some ⟨g, (i + 1) * 2, none⟩) lb cb]).run Try.prog w = .ok (.value (.bool false)) w := fun lb cb => by
    rw [run_callFunc_extern Try.func49 (by kernel_rfl) (by kernel_rfl) (by kernel_rfl) (e := Extern.SlicesOverlaps.overlaps #[24, 24] #[4]) (by kernel_rfl),
      Lib.run_overlaps_apart w 24 4 36 Try.underlying24 2 (fun _ => by kernel_rfl) ⟨q, 0, none⟩ ⟨g, (i + 1) * 2, none⟩ 1 1 lb cb hqg 36 36 2 (c * 2) (by simp [World.shape?, hq]) hsg (by omega) (not_frozen_off hq 0) (not_frozen_off hq 2)]
    rfl
  have hdl : (l.drop i).length = n - i := by rw [List.length_drop, hl]
  have hrd : Rw w.drew 36 g c l := hr
  obtain ⟨w1, hc1, hr1, ho1⟩ := copy_inw (l' := l.take (i + 1) ++ l.drop i) (n := n - i) (k := i + 1) (dl := n + 1 - (i + 1)) (dc := c - (i + 1)) (sl := n + 1 - i) (sc := c - i) w.drew hrd (drop_row hrd hl (by omega)) (by omega) (by simp only [Nat.min_def]; split <;> omega) (by omega) (fun C h1 h2 => lay_over h1 h2 (by omega) (by omega) (by omega)) (by rw [List.length_append, List.length_take, hdl]; omega)
  have hm1 : At w1 q 0 m := At.of_block (w := w.drew) hm (ho1.block q hqg)
  obtain ⟨w2, hc2', hr2, ho2⟩ := copy_inw (l' := l.take i ++ m :: l.drop i) (n := 1) (k := i) (dl := n + 1 - i) (dc := c - i) (sl := 1) (sc := 1) w1 hr1 (one_vs hm1) (by omega) (by simp only [Nat.min_def]; split <;> omega) (by omega) (fun C h1 h2 => by rw [← ins_a (m := m) hl hi]; exact lay_in (p := [m]) h1 h2 (by rw [List.length_append, List.length_take, hdl]; omega) (by rw [List.length_append, List.length_take, hdl]; simp; omega)) (by rw [List.length_append, List.length_cons, List.length_take, hdl]; omega)
  have R2 := Lib.hid hr2
  have O2 : Hid (w.grownBy w2 (some g)) := Lib.hid ⟨ho2.os.trans ho1.os, ho2.tape.trans ho1.tape, ho2.output.trans ho1.output, by rw [ho2.size, ho1.size]; exact Nat.le_refl _, fun k _ hk => (ho2.block k (fun e => hk (by rw [e]))).trans (ho1.block k (fun e => hk (by rw [e])))⟩
  have hb0 : ¬ ((1 : Int) = 0) := by omega
  have hb2 : ¬ ((i : Int) = (n : Int)) := by omega
  have hw1 : IntKind.i64.wrap ((i : Int) + 1) = (i : Int) + 1 := by rw [IntKind.wrap_i64]; omega
  have hb1 : (0 : Int) ≤ (i : Int) + 1 := by omega
  have htn : ((i : Int) + 1).toNat = i + 1 := by omega
  have htm : ((n : Int) + 1).toNat = n + 1 := by omega
  have hb3 : ¬ c = i + 1 := by omega
  have hb4 : ¬ c = i := by omega
  have hb5 : (i : Int) ≤ (n : Int) + 1 := by omega
  have hb6 : (i : Int) + 1 ≤ (n : Int) + 1 := by omega
  have hb7 : (n : Int) + 1 ≤ (c : Int) := by omega
  have hb8 : (i : Int) ≤ (n : Int) := by omega
  have hb9 : ¬ ((c : Int) < (n : Int) + 1) := by omega
  have hb10 : ¬ c = 0 := by omega
  clear hr1 hr2 ho1 ho2 hm1 hrd hr hsg hfg hm hq
  go_enter Try.func36, Try.ntmps36
  go_wp2_with (simp only [hov])
  go_region_law (refine step_copy_run rfl (.tmp 73) (.tmp 76) 24 24 rfl (.slice (some ⟨g, (i + 1) * 2, none⟩) (n + 1 - (i + 1)) (c - (i + 1))) (.slice (some ⟨g, i * 2, none⟩) (n + 1 - i) (c - i)) (by simp [Act.eval, Act.put]) (by simp [Act.eval, Act.put]) hc1 ?_)
  go_wp2_with (at_builtin; refine wpList_copy_run _ rfl _ _ 24 24 rfl _ _ rfl rfl hc2' ?_)
  go_ret
  exact ⟨rfl, R2.out, O2.out⟩
set_option maxRecDepth 100000 in
set_option maxHeartbeats 1600000 in
/-- into a new row -/
theorem insx_grow {w : World} {n g q i : Nat} {l : List E2} {m : E2} (hr : Rw w 36 g n l) (hl : l.length = n) (hn : n ≤ 2097152) (hi : i < n) (hm : At w q 0 m) (hqs : q < w.heap.size) :
    Calls Try.prog 36 #[.slice (some ⟨g, 0, none⟩) n n, .int .i64 i, .slice (some ⟨q, 0, none⟩) 1 1] w fun e w' => ∃ G, e = .returned (.slice (some ⟨w.heap.size, 0, none⟩) (n + 1) G) ∧ Rw w' 36 w.heap.size G (l.take i ++ m :: l.drop i) ∧ Below w.heap.size w w' := by
  obtain ⟨i0, hi0, hz0, hs0, hby0⟩ := info_parts info_wt
  have hlt := hr.lt
  have hdl : (l.drop i).length = n - i := by rw [List.length_drop, hl]
  have htl : (l.take i).length = i := by rw [List.length_take]; omega
  have hold : (Builtin.firstCells i0.size i (.slice (some ⟨g, 0, none⟩) i n)).run Try.prog w.drew = .ok (flat (l.take i)).toArray w.drew := by
    rw [hs0]
    exact run_firstCells_some w.drew 2 i ⟨g, 0, none⟩ i n (flat (l.take i)) (by rw [flat_len, htl]) (at_cells (w := w.drew) fun k x hx => by
      rw [List.getElem?_take] at hx
      split at hx
      · exact hr.at_ k x hx
      · cases hx)
  have hrz := fun ty => Lib.run_append_grow_zeros (P := Try.prog) w 24 3 ty 36 i0 _ .i64 .i64 Try.underlying24 Try.underlying3 hi0 hz0 (some ⟨g, 0, none⟩) i n (flat (l.take i)) hold (n + 1 - i) (by omega) (by rw [hs0]; omega) (by omega) (by omega) (by rw [hby0]; omega) (by rw [hby0]; exact growslice_fits (by omega) (by omega))
  have hin : i + (n + 1 - i) = n + 1 := by omega
  have hic : ((n + 1 - i : Nat) : Int) = (n : Int) + 1 - (i : Int) := by omega
  rw [hin, hic] at hrz
  have hGn := grownCap_ge w (n + 1) n 36
  have hGm := grownCap_le_maxLen w (n + 1) n 36 (by unfold maxLen; omega)
  generalize grownCap w (n + 1) n 36 = G at hrz hGn hGm
  have hrow := zc w.drew 36 (l.take i) (n + 1 - i) (G - (n + 1)) G hGm (by omega)
  unfold maxLen at hGm
  have hbel : Below w.heap.size w (w.drew.alloc (.cells ((flat (l.take i)).toArray ++ Builtin.zeroCells #[.int .i64 0, .int .i64 0] (n + 1 - i) ++ Builtin.zeroCells #[.int .i64 0, .int .i64 0] (G - (n + 1))) 36)) := ((Below.refl _ _).drew).alloc (Nat.le_refl _) _
  change ∀ ty : TypeId, _ = Result.ok _ (w.drew.alloc (.cells ((flat (l.take i)).toArray ++ Builtin.zeroCells #[.int .i64 0, .int .i64 0] (n + 1 - i) ++ Builtin.zeroCells #[.int .i64 0, .int .i64 0] (G - (n + 1))) 36)) at hrz
  generalize w.drew.alloc _ = W1 at hrz hrow hbel
  have hm1 := hm.keep hqs hbel
  have hr1 : Rw W1 36 g n l := Rw.of_block hr (hbel.block g hlt)
  have hrl : (l.take i ++ List.replicate (n + 1 - i) (⟨0, 0⟩ : E2)).length = n + 1 := by rw [List.length_append, htl, List.length_replicate]; omega
  obtain ⟨w2, hc2, hr2, ho2⟩ := copy_inw (l' := l.take i ++ m :: List.replicate (n - i) ⟨0, 0⟩) (g := w.heap.size) (cap := G) (n := 1) (k := i) (dl := n + 1 - i) (dc := G - i) (sl := 1) (sc := 1) W1 hrow (one_vs hm1) (by omega) (by simp only [Nat.min_def]; split <;> omega) (by omega) (fun C h1 h2 => by rw [← ins_b (m := m) hl hi]; exact lay_in (p := [m]) h1 h2 (by omega) (by rw [hrl]; simp; omega)) (by rw [List.length_append, List.length_cons, htl, List.length_replicate]; omega)
  have hr12 : Rw w2.drew 36 g n l := Rw.of_block hr1 (ho2.block g (by omega))
  have hr2d : Rw w2.drew 36 w.heap.size G (l.take i ++ m :: List.replicate (n - i) ⟨0, 0⟩) := hr2
  have hrl2 : (l.take i ++ m :: List.replicate (n - i) (⟨0, 0⟩ : E2)).length = n + 1 := by rw [List.length_append, List.length_cons, htl, List.length_replicate]; omega
  obtain ⟨w3, hc3, hr3, ho3⟩ := copy_inw (l' := l.take i ++ m :: l.drop i) (g := w.heap.size) (cap := G) (n := n - i) (k := i + 1) (dl := n + 1 - (i + 1)) (dc := G - (i + 1)) (sl := n - i) (sc := n - i) w2.drew hr2d (drop_row hr12 hl (by omega)) (by omega) (by simp only [Nat.min_def]; split <;> omega) (by omega) (fun C h1 h2 => by rw [← ins_c (m := m) hl hi]; exact lay_in (p := l.drop i) h1 h2 (by omega) (by rw [hrl2, hdl]; omega)) (by rw [List.length_append, List.length_cons, htl, hdl]; omega)
  have R3 := Lib.hid hr3
  have B3 : Hid (Below w.heap.size w w3) := Lib.hid ((hbel.trans (ho2.below (Nat.le_refl _))).trans (Below.trans (Below.refl _ w2).drew (ho3.below (Nat.le_refl _))))
  have hb0 : ¬ ((1 : Int) = 0) := by omega
  have hb2 : ¬ ((i : Int) = (n : Int)) := by omega
  have hw1 : IntKind.i64.wrap ((i : Int) + 1) = (i : Int) + 1 := by rw [IntKind.wrap_i64]; omega
  have hw2 : IntKind.i64.wrap ((n : Int) + 1 - (i : Int)) = (n : Int) + 1 - (i : Int) := by rw [IntKind.wrap_i64]; omega
  have hb1 : (0 : Int) ≤ (i : Int) + 1 := by omega
  have htn : ((i : Int) + 1).toNat = i + 1 := by omega
  have hb3 : ¬ G = i + 1 := by omega
  have hb4 : ¬ n = i := by omega
  have hb4' : ¬ G = i := by omega
  have hb5 : (i : Int) ≤ (n : Int) + 1 := by omega
  have hb6 : (i : Int) + 1 ≤ (n : Int) + 1 := by omega
  have hb8 : (i : Int) ≤ (n : Int) := by omega
  have hb9 : (n : Int) < (n : Int) + 1 := by omega
  have hb10 : ¬ n = 0 := by omega
  clear hr1 hr2 ho2 hm1 hr hm hr12 hr2d hr3 ho3 hrow hbel hold
  go_enter Try.func36, Try.ntmps36
  go_wp2_with (first | (at_builtin; refine Lib.wpList_append_run _ rfl _ _ 24 3 rfl _ _ rfl rfl _ _ (hrz _) ?_) | (at_builtin; refine wpList_copy_run _ rfl _ _ 24 24 rfl _ _ rfl rfl hc2 ?_))
  go_region_law (refine step_copy_run rfl (.tmp 50) (.tmp 53) 24 24 rfl (.slice (some ⟨w.heap.size, (i + 1) * 2, none⟩) (n + 1 - (i + 1)) (G - (i + 1))) (.slice (some ⟨g, i * 2, none⟩) (n - i) (n - i)) (by simp [Act.eval, Act.put]) (by simp [Act.eval, Act.put]) hc3 ?_)
  go_wp2_with fail
  go_ret
  exact ⟨_, rfl, R3.out, B3.out⟩
theorem ret_sl {A : Option Addr} {m m' c : Nat} (h : m = m') : Ending.returned (.slice A m c) = .returned (.slice A m' c) := by rw [h]
theorem Rw.own' {w : World} {e : TypeId} {g cap base n : Nat} {l : List E2} (h : Rw w e g cap l) (hn : l.length = n) (hb : base ≤ g) : w.ownsRow base e 2 (.slice (some ⟨g, 0, none⟩) n cap) n (flat l) := by subst hn; exact Rw.own h hb
theorem ins_len' {l : List E2} {m : E2} {i n : Nat} (hl : l.length = n) (hi : i ≤ n) : (l.take i ++ m :: l.drop i).length = n + 1 := by
  rw [List.length_append, List.length_cons, List.length_take, List.length_drop]; omega
/-- a mark put into a row of the call's own at a place -/
theorem lib_insw {w : World} {base n c q i : Nat} {A : Option Addr} {l : List E2} {m : E2} (ho : w.ownsRow base 36 2 (.slice A n c) n (flat l)) (hn : n ≤ 2097152) (hi : i ≤ n) (hq : w.heap[q]? = some (.cells #[.int .i64 m.a, .int .i64 m.b] 36 (0, 0))) (hqg : ∀ g, A = some ⟨g, 0, none⟩ → q ≠ g) (hb : base ≤ w.heap.size) :
    Calls Try.prog 36 #[.slice A n c, .int .i64 i, .slice (some ⟨q, 0, none⟩) 1 1] w fun e w' => ∃ A' c', e = .returned (.slice A' (n + 1) c') ∧ w'.ownsRow base 36 2 (.slice A' (n + 1) c') (n + 1) (flat (l.take i ++ m :: l.drop i)) ∧ w.grownBy w' (Value.slice A n c).ownBlock := by
  have hqs : q < w.heap.size := (Array.getElem?_eq_some_iff.1 hq).1
  have hm : At w q 0 m := ⟨by simp [World.cell?, hq], by simp [World.cell?, hq]⟩
  have hl : l.length = n := by have := ho.1; rw [flat_len] at this; omega
  by_cases he : i = n
  · subst he
    rw [List.take_of_length_le (by omega), List.drop_of_length_le (by omega)]
    exact insx_end ho hn hm hb
  · obtain ⟨g, rfl, hbg, hr, _, hnc, hcm⟩ := own_capw ho (by omega)
    by_cases hc : n + 1 ≤ c
    · refine (insx_room hr hl hn (by omega) hc hcm hm hq (hqg g rfl) hqs).mono ?_
      rintro e w' ⟨rfl, hr', hg⟩
      exact ⟨_, _, rfl, Rw.own' hr' (ins_len' hl hi) hbg, hg⟩
    · obtain rfl : c = n := by omega
      refine (insx_grow hr hl hn (by omega) hm hqs).mono ?_
      rintro e w' ⟨G, rfl, hr', hg⟩
      exact ⟨_, _, rfl, Rw.own' hr' (ins_len' hl hi) hb, ⟨hg.os, hg.tape, hg.output, hg.size, fun k hk _ => hg.block k hk⟩⟩
end Go.Proofs.Ytcfmpnhnahafpaa.wti
