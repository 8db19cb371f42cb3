/- slices.Insert of one mark into a row of the call's own. -/
import Derived.Test.YtdfhnngcddaccaaAo
import Derived.Test.YtdfhnngcddaccaaRo
import Derived.Lib.AppendZerosOnto
import Derived.Lib.Overlaps
import Derived.Shelf.Abstract
namespace Go.Proofs.Ytdfhnngcddaccaa.isr
open Go.ChangeShapes Go.WideShapes Go.ChangeAt Go.RowKit
open Go.Proofs.Ytdfhnngcddaccaa.el2 Go.Proofs.Ytdfhnngcddaccaa.tx Go.Proofs.Ytdfhnngcddaccaa.ap Go.Proofs.Ytdfhnngcddaccaa.bx Go.Proofs.Ytdfhnngcddaccaa.cl Go.Proofs.Ytdfhnngcddaccaa.ro Go.Proofs.Ytdfhnngcddaccaa.ao
set_option linter.unusedVariables false
set_option linter.unusedSimpArgs false
theorem wp_copy_run {P : Program} (w : World) {o : Oper} {a : Act} {K : Act → World → Prop} {Q : Exit → Act → World → Prop} (d s : Operand) (t t' : TypeId)
    (ho : o.op = .call { callee := .builtin .copy, args := #[d, s], argTypes := #[t, t'] }) (v u : Value) (hd : a.eval d = v) (hs : a.eval s = u) {v' : Value} {w' : World}
    (hr : (Builtin.copy_ #[t, t'] o.type #[v, u]).run P w = .ok v' w') (h : K (a.put o.dst v') w') : o.wp P a w K Q := by
  unfold Oper.wp execOp
  simp only [ho, resolve, invoke, builtin, Sem.run_bind, Sem.run_pure, Result.andThen_ok, List.map_toArray, List.map_cons, List.map_nil, hd, hs, hr]
  exact h
theorem wpList_copy_run {P : Program} (w : World) {ops : Array Oper} {rest : List Oper} {o : Oper} {a : Act} {Q : Exit → Act → World → Prop} (hgd : o.guard = none) (d s : Operand) (t t' : TypeId)
    (ho : o.op = .call { callee := .builtin .copy, args := #[d, s], argTypes := #[t, t'] }) (v u : Value) (hd : a.eval d = v) (hs : a.eval s = u) {v' : Value} {w' : World}
    (hr : (Builtin.copy_ #[t, t'] o.type #[v, u]).run P w = .ok v' w') (h : wpList P ops Q rest (a.put o.dst v') w') : wpList P ops Q (o :: rest) a w :=
  wpList_plain hgd fun _ hK => wp_copy_run w d s t t' ho v u hd hs hr (hK _ _ h)
theorem step_copy_run {P : Program} {ops : Array Oper} {o : Oper} {a : Act} {w : World} {K : Act → World → Prop} {Q : Exit → Act → World → Prop} {E : Prop}
    (hg : o.guard = none) (d x : Operand) (dT sT : TypeId) (hop : o.op = Op.call { callee := Callee.builtin Builtin.copy, args := #[d, x], argTypes := #[dT, sT] })
    (v u : Value) (hd : a.eval d = v) (hx : a.eval x = u) {v' : Value} {w' : World} (hr : (Builtin.copy_ #[dT, sT] o.type #[v, u]).run P w = .ok v' w') (hK : K (a.put o.dst v') w') :
    if Region.wanted o (yielded ops a.tmps) = true then Oper.wp P o a w K Q else E := by
  have hw : Region.wanted o (yielded ops a.tmps) = true := by simp [Region.wanted, hg]
  rw [if_pos hw]
  unfold Oper.wp
  simp [execOp, hop, resolve, invoke, builtin, hd, hx, hr, Result.andThen]
  exact hK
/-- a copy of a list into a row -/
theorem copy_in (w : World) {g cap k dl dc sl sc B : Nat} {A : Option Addr} {l l' p : List E2} {n : Nat} (h : Rw w 125 g cap l) (hp : Vs w B A n p) (hn : 0 < n) (hm : n = Nat.min sl dl) (hk : k + n ≤ cap)
    (hl : ∀ C : List Value, C.take (l.length * 2) = flat l → C.length = cap * 2 → (C.take (k * 2) ++ flat p ++ C.drop (k * 2 + (flat p).length)).length = cap * 2 ∧ (C.take (k * 2) ++ flat p ++ C.drop (k * 2 + (flat p).length)).take (l'.length * 2) = flat l') (hl' : l'.length ≤ cap) :
    ∃ w', (Builtin.copy_ #[27, 27] 3 #[.slice (some ⟨g, k * 2, none⟩) dl dc, .slice A sl sc]).run Try.prog w = .ok (goInt n) w' ∧ Rw w' 125 g cap l' ∧ Off g w w' := by
  obtain ⟨i0, hi, hz, hs, hby⟩ := info_parts info_rm
  obtain ⟨cur, h1, h2, h3, h4, h5⟩ := h
  obtain ⟨b, o, rfl, hb, hx⟩ := hp.2 hn
  obtain ⟨e1, e2⟩ := hl cur.toList h5 (by simpa using h4)
  have hpl : (flat p).length = n * 2 := by rw [flat_len, hp.1]
  exact ⟨_, run_copy_e2 (P := Try.prog) w 27 27 3 125 g (k * 2) dl dc n sl sc ⟨b, o, none⟩ cur 125 (flat p) Try.underlying27 hi hs h1 hm hpl (at_cells hx) (by rw [hpl]; omega) (flat_one p), Rw.lay (l := l) h1 h3 e1 e2 hl', set_off _⟩
theorem zc (w : World) (e : TypeId) (X : List E2) (k j G : Nat) (hG : G ≤ maxLen) (hl : X.length + k + j = G) :
    Rw (w.alloc (.cells ((flat X).toArray ++ Builtin.zeroCells #[.int .i64 0, .int .i64 0] k ++ Builtin.zeroCells #[.int .i64 0, .int .i64 0] j) e)) e w.heap.size G (X ++ List.replicate k ⟨0, 0⟩) := by
  refine ⟨_, heap_alloc_new w _, by simp; omega, hG, ?_, ?_⟩
  · have e1 : (flat X).length = X.length * 2 := flat_len X
    have e2 : (Builtin.zeroCells #[.int .i64 0, .int .i64 0] k).toList.length = k * 2 := by rw [zero_cells, flat_len, List.length_replicate]
    have e3 : (Builtin.zeroCells #[.int .i64 0, .int .i64 0] j).toList.length = j * 2 := by rw [zero_cells, flat_len, List.length_replicate]
    rw [Array.length_toList] at e2 e3
    simp only [Array.size_append, List.size_toArray]
    omega
  · simp only [Array.toList_append, zero_cells, ← flat_app]
    rw [flat_take, List.take_append_of_le_length (by simp), List.take_of_length_le (by simp)]
section
variable {l : List E2} {m : E2} {i n : Nat}
theorem ins_a (hl : l.length = n) (hi : i < n) : ((l.take (i + 1) ++ l.drop i).take i ++ [m] ++ (l.take (i + 1) ++ l.drop i).drop (i + 1)) = l.take i ++ m :: l.drop i := by
  rw [List.take_append_of_le_length (by rw [List.length_take]; omega), List.take_take, show min i (i + 1) = i by omega, List.drop_append, List.drop_of_length_le (by rw [List.length_take]; omega), List.length_take, show i + 1 - min (i + 1) l.length = 0 by omega]
  simp
theorem ins_b (hl : l.length = n) (hi : i < n) : ((l.take i ++ List.replicate (n + 1 - i) (⟨0, 0⟩ : E2)).take i ++ [m] ++ (l.take i ++ List.replicate (n + 1 - i) (⟨0, 0⟩ : E2)).drop (i + 1)) = l.take i ++ m :: List.replicate (n - i) (⟨0, 0⟩ : E2) := by
  have e : (l.take i).length = i := by rw [List.length_take]; omega
  rw [List.take_append_of_le_length (by omega), List.take_take, Nat.min_self, List.drop_append, List.drop_of_length_le (by omega), e, List.drop_replicate]
  rw [show n + 1 - i - (i + 1 - i) = n - i by omega]
  simp
theorem ins_c (hl : l.length = n) (hi : i < n) : ((l.take i ++ m :: List.replicate (n - i) (⟨0, 0⟩ : E2)).take (i + 1) ++ l.drop i ++ (l.take i ++ m :: List.replicate (n - i) (⟨0, 0⟩ : E2)).drop (i + 1 + (l.drop i).length)) = l.take i ++ m :: l.drop i := by
  have e : (l.take i).length = i := by rw [List.length_take]; omega
  have e2 : (l.take i ++ m :: List.replicate (n - i) (⟨0, 0⟩ : E2)).drop (i + 1 + (l.drop i).length) = [] := by
    apply List.drop_of_length_le
    simp
    omega
  have e3 : (l.take i ++ m :: List.replicate (n - i) (⟨0, 0⟩ : E2)).take (i + 1) = l.take i ++ [m] := by
    rw [List.take_append, e, List.take_of_length_le (by omega), show i + 1 - i = 1 by omega]
    simp
  rw [e2, e3]
  simp
end
theorem drop_row {w : World} {e : TypeId} {g cap n i : Nat} {l : List E2} (h : Rw w e g cap l) (hn : l.length = n) (hi : i ≤ n) : Vs w w.heap.size (some ⟨g, i * 2, none⟩) (n - i) (l.drop i) := by
  have := Vs.drop (k := i) (B := w.heap.size) (b := g) (o := 0) (n := n) (w := w) (l := l) ⟨hn, fun _ => ⟨g, 0, rfl, h.lt, h.at_⟩⟩ hi
  rw [Nat.zero_add] at this
  exact this
theorem not_frozen_off {w : World} {q : Nat} {cs : Array Value} {t : TypeId} (h : w.heap[q]? = some (.cells cs t (0, 0))) (k : Nat) : w.frozen? ⟨q, k, none⟩ = false := by simp [World.frozen?, h]
/-- the slice's capacity is at hand -/
theorem own_cap {w : World} {base n c : Nat} {A : Option Addr} {l : List E2} (h : w.ownsRow base 125 2 (.slice A n c) n (flat l)) (h0 : 0 < n) : ∃ g, A = some ⟨g, 0, none⟩ ∧ base ≤ g ∧ Rw w 125 g c l ∧ l.length = n ∧ n ≤ c ∧ c ≤ maxLen := by
  obtain ⟨hl, ⟨hv, hn⟩ | ⟨g, cap, hv, hb, hr⟩⟩ := own_rw h
  · subst hn; simp at hl; omega
  · injection hv with e1 e2 e3
    subst e1 e3
    obtain ⟨cur, h1, h2, h3, _⟩ := id hr
    exact ⟨g, rfl, hb, hr, hl, by omega, h3⟩
theorem ret_sl {A : Option Addr} {m m' c : Nat} (h : m = m') : Ending.returned (.slice A m c) = .returned (.slice A m' c) := by rw [h]
theorem Rw.own' {w : World} {e : TypeId} {g cap base n : Nat} {l : List E2} (h : Rw w e g cap l) (hn : l.length = n) (hb : base ≤ g) : w.ownsRow base e 2 (.slice (some ⟨g, 0, none⟩) n cap) n (flat l) := by subst hn; exact Rw.own h hb
theorem ins_len' {l : List E2} {m : E2} {i n : Nat} (hl : l.length = n) (hi : i ≤ n) : (l.take i ++ m :: l.drop i).length = n + 1 := by
  rw [List.length_append, List.length_cons, List.length_take, List.length_drop]; omega
end Go.Proofs.Ytdfhnngcddaccaa.isr
