/- Appending to rows of writes of the call's own: as Ao, for lists of writes. -/
import Derived.Test.YtjnlbhmddhpmaaaGreatLc
import Derived.Test.YtjnlbhmddhpmaaaGreatRq
import Derived.Deep.RegionLaw
namespace Go.Proofs.YtjnlbhmddhpmaaaGreat.aow
open Go.ChangeShapes Go.WideShapes Go.ChangeAt Go.RowKit
open Go.Proofs.YtjnlbhmddhpmaaaGreat.el2 Go.Proofs.YtjnlbhmddhpmaaaGreat.tx Go.Proofs.YtjnlbhmddhpmaaaGreat.seq Go.Proofs.YtjnlbhmddhpmaaaGreat.tv Go.Proofs.YtjnlbhmddhpmaaaGreat.tf Go.Proofs.YtjnlbhmddhpmaaaGreat.ap Go.Proofs.YtjnlbhmddhpmaaaGreat.bx Go.Proofs.YtjnlbhmddhpmaaaGreat.cl Go.Proofs.YtjnlbhmddhpmaaaGreat.lc Go.Proofs.YtjnlbhmddhpmaaaGreat.rx
set_option linter.unusedVariables false
set_option linter.unusedSimpArgs false
/-- an append whose run is known, as one step of a region that draws -/
theorem step_append_run {P : Program} {ops : Array Oper} {o : Oper} {a : Act} {w : World} {K : Act → World → Prop} {Q : Exit → Act → World → Prop} {E : Prop} (hgd : o.guard = none) (s x : Operand) (t t' : TypeId)
    (hop : o.op = .call { callee := .builtin .append, args := #[s, x], argTypes := #[t, t'] }) (v u : Value) (hs : a.eval s = v) (hx : a.eval x = u) {v' : Value} {w' : World} (hr : (Builtin.append_ #[t, t'] o.type #[v, u]).run P w = .ok v' w') (hK : K (a.put o.dst v') w') :
    if Region.wanted o (yielded ops a.tmps) = true then Oper.wp P o a w K Q else E := by
  have hw : Region.wanted o (yielded ops a.tmps) = true := by simp [Region.wanted, hgd]
  rw [if_pos hw]
  unfold Oper.wp
  simp [execOp, hop, resolve, invoke, builtin, hs, hx, hr, Result.andThen]
  exact hK
/-- an append onto a row of the call's own keeps what lies below, and what lies in another block -/
theorem app_own (V : World) {base k n c0 c B : Nat} {A0 A : Option Addr} {xs l : List E2} (ho : V.ownsRow base 86 2 (.slice A0 k c0) k (flat xs)) (hv : Vs V B A n l) (hk : k + n ≤ 4194304) (hb : base ≤ V.heap.size) :
    ∃ A' c' V', (Builtin.append_ #[53, 53] 53 #[.slice A0 k c0, .slice A n c]).run Tryz.prog V = .ok (.slice A' (k + n) c') V' ∧ V'.ownsRow base 86 2 (.slice A' (k + n) c') (k + n) (flat (xs ++ l)) ∧ V.grownBy V' (Value.slice A0 k c0).ownBlock ∧ Below base V V' := by
  obtain ⟨i0, hi, hz, hs, hby⟩ := info_parts info_wr
  obtain ⟨v', w', hr, ho', hg⟩ := run_append_e2 (P := Tryz.prog) V 53 53 86 i0 _ Tryz.underlying53 hi hz hs hby rfl ho hv (c := c) hk hb
  have hl : (xs ++ l).length = k + n := by have := ho'.1; rw [flat_len] at this; omega
  obtain ⟨A', c', rfl, _⟩ := own_vs ho' hl
  refine ⟨A', c', w', hr, ho', hg, ((Below.refl base V).grown hg hb fun q hq => ?_)⟩
  rcases ho.2 with ⟨e, _⟩ | ⟨g, cap, cur, e, hg', _⟩
  · rw [e] at hq; simp [Value.ownBlock] at hq
  · rw [e] at hq; simp [Value.ownBlock] at hq; omega
theorem one_vs {w : World} {q : Nat} {m : E2} (h : At w q 0 m) : Vs w (q + 1) (some ⟨q, 0, none⟩) 1 [m] := ⟨rfl, fun _ => ⟨q, 0, rfl, by omega, fun k z hz => by
  match k, hz with
  | 0, hz => injection hz with hz; subst hz; exact h⟩⟩
/-- the two appends that put a write behind a list, from a world that has both boxes: the empty row g, the write's box q -/
theorem run2 (V : World) {base g q B k c1 : Nat} {A1 : Option Addr} {P : List E2} {m : E2} (ho : V.ownsRow base 86 2 (.slice (some ⟨g, 0, none⟩) 0 0) 0 (flat [])) (hm : At V q 0 m) (hq : q < V.heap.size) (hqg : q ≠ g) (hP : Vs V B A1 k P) (hk : k ≤ 2097152) (hb : base ≤ V.heap.size) :
    ∃ A3 c3 W3 A4 c4 W4, (Builtin.append_ #[53, 53] 53 #[.slice (some ⟨g, 0, none⟩) 0 0, .slice A1 k c1]).run Tryz.prog V = .ok (.slice A3 k c3) W3 ∧
      (Builtin.append_ #[53, 53] 53 #[.slice A3 k c3, .slice (some ⟨q, 0, none⟩) 1 1]).run Tryz.prog W3 = .ok (.slice A4 (k + 1) c4) W4 ∧
      W4.ownsRow base 86 2 (.slice A4 (k + 1) c4) (k + 1) (flat (P ++ [m])) ∧ Below base V W4 := by
  obtain ⟨A3, c3, W3, hr3, ho3, hg3, hb3⟩ := app_own (c := c1) V ho hP (by omega) hb
  rw [Nat.zero_add] at hr3 ho3
  have hm3 : At W3 q 0 m := hm.of_block (hg3.block q hq (by simp [Value.ownBlock]; omega))
  obtain ⟨A4, c4, W4, hr4, ho4, hg4, hb4⟩ := app_own (c := 1) W3 ho3 (one_vs hm3) (by omega) (Nat.le_trans hb hb3.size)
  refine ⟨A3, c3, W3, A4, c4, W4, hr3, hr4, ?_, hb3.trans hb4⟩
  simp only [List.nil_append] at ho4
  exact ho4
/-- .. where the write's box is laid behind the first of them -/
theorem run2' (V : World) {base g B k c1 : Nat} {A1 : Option Addr} {P : List E2} (m : E2) (ho : V.ownsRow base 86 2 (.slice (some ⟨g, 0, none⟩) 0 0) 0 (flat [])) (hP : Vs V B A1 k P) (hk : k ≤ 2097152) (hb : base ≤ V.heap.size) :
    ∃ A3 c3 W3 A4 c4 W4, (Builtin.append_ #[53, 53] 53 #[.slice (some ⟨g, 0, none⟩) 0 0, .slice A1 k c1]).run Tryz.prog V = .ok (.slice A3 k c3) W3 ∧
      (Builtin.append_ #[53, 53] 53 #[.slice A3 k c3, .slice (some ⟨W3.heap.size, 0, none⟩) 1 1]).run Tryz.prog (W3.alloc (.cells #[.int .i64 m.a, .int .i64 m.b] 86)) = .ok (.slice A4 (k + 1) c4) W4 ∧
      W4.ownsRow base 86 2 (.slice A4 (k + 1) c4) (k + 1) (flat (P ++ [m])) ∧ Below base V W4 ∧ Below base V W3 := by
  obtain ⟨A3, c3, W3, hr3, ho3, hg3, hb3⟩ := app_own (c := c1) V ho hP (by omega) hb
  rw [Nat.zero_add] at hr3 ho3
  have hbn := new1 W3 (.cells #[.int .i64 m.a, .int .i64 m.b] 86)
  have hbs := hbn.size
  have hb33 := hb3.size
  obtain ⟨A4, c4, W4, hr4, ho4, hg4, hb4⟩ := app_own (c := 1) (W3.alloc (.cells #[.int .i64 m.a, .int .i64 m.b] 86)) (own_keep ho3 hbn) (one_vs (boxed W3 m 86)) (by omega) (by omega)
  refine ⟨A3, c3, W3, A4, c4, W4, hr3, hr4, ?_, hb3.trans ((hbn.mono (by omega)).trans hb4), hb3⟩
  simp only [List.nil_append] at ho4
  exact ho4
theorem qleft' {P : Program} {f : FuncId} {args : Array Value} {w : World} {n : Nat} {p q : Bool} (h : Calls P f args (w.drewN n) fun e w' => e = .returned (.bool p) ∧ w.drewN n = w') (hq : p = q) : Calls P f args (w.drewN n) fun e w'' => e = .returned (.bool q) ∧ ∃ m, w'' = w.drewN m := h.mono fun _ _ ⟨he, hm⟩ => ⟨by rw [he, hq], n, hm.symm⟩
theorem Vs.take {w : World} {B n : Nat} {A : Option Addr} {l : List E2} (h : Vs w B A n l) {k : Nat} (hk : k ≤ n) : Vs w B A k (l.take k) := ⟨by rw [List.length_take, h.1]; omega, fun h0 => by
  obtain ⟨b, o, e, hb, hx⟩ := h.2 (by omega)
  refine ⟨b, o, e, hb, fun j x hj => hx j x ?_⟩
  rw [List.getElem?_take] at hj
  split at hj
  · exact hj
  · cases hj⟩
theorem Vs.drop {w : World} {B n b o : Nat} {l : List E2} (h : Vs w B (some ⟨b, o, none⟩) n l) {k : Nat} (hk : k ≤ n) : Vs w B (some ⟨b, o + k * 2, none⟩) (n - k) (l.drop k) := ⟨by rw [List.length_drop, h.1], fun h0 => by
  obtain ⟨b', o', e, hb, hx⟩ := h.2 (by omega)
  injection e with e
  injection e with e1 e2
  subst e1 e2
  refine ⟨b, o + k * 2, rfl, hb, fun j x hj => ?_⟩
  rw [List.getElem?_drop] at hj
  have := hx _ _ hj
  rw [Nat.add_mul, ← Nat.add_assoc] at this
  exact this⟩
end Go.Proofs.YtjnlbhmddhpmaaaGreat.aow
