/- Appending to rows of writes of the call's own: as Ao, for lists of writes. -/
import Derived.Test.YtjnlbhmddhpmaabDoorLc
import Derived.Test.YtjnlbhmddhpmaabDoorRq
import Derived.Deep.RegionLaw
namespace Go.Proofs.YtjnlbhmddhpmaabDoor.aow
open Go.ChangeShapes Go.WideShapes Go.ChangeAt Go.RowKit
open Go.Proofs.YtjnlbhmddhpmaabDoor.el2 Go.Proofs.YtjnlbhmddhpmaabDoor.tx Go.Proofs.YtjnlbhmddhpmaabDoor.seq Go.Proofs.YtjnlbhmddhpmaabDoor.tv Go.Proofs.YtjnlbhmddhpmaabDoor.tf Go.Proofs.YtjnlbhmddhpmaabDoor.ap Go.Proofs.YtjnlbhmddhpmaabDoor.bx Go.Proofs.YtjnlbhmddhpmaabDoor.cl Go.Proofs.YtjnlbhmddhpmaabDoor.lc Go.Proofs.YtjnlbhmddhpmaabDoor.rx
set_option linter.unusedVariables false
set_option linter.unusedSimpArgs false
/-- an append whose run is known, as one step of a region that draws -/
theorem step_append_run {P : Program} {ops : Array Oper} {o : Oper} {a : Act} {w : World} {K : Act → World → Prop} {Q : Exit → Act → World → Prop} {E : Prop} (hgd : o.guard = none) (s x : Operand) (t t' : TypeId)
    (hop : o.op = .call { callee := .builtin .append, args := #[s, x], argTypes := #[t, t'] }) (v u : Value) (hs : a.eval s = v) (hx : a.eval x = u) {v' : Value} {w' : World} (hr : (Builtin.append_ #[t, t'] o.type #[v, u]).run P w = .ok v' w') (hK : K (a.put o.dst v') w') :
    if Region.wanted o (yielded ops a.tmps) = true then Oper.wp P o a w K Q else E := by
  have hw : Region.wanted o (yielded ops a.tmps) = true := by simp [Region.wanted, hgd]
  rw [if_pos hw]
  unfold Oper.wp
  simp [execOp, hop, resolve, invoke, builtin, hs, hx, hr, Result.andThen]
  exact hK
theorem one_vs {w : World} {q : Nat} {m : E2} (h : At w q 0 m) : Vs w (q + 1) (some ⟨q, 0, none⟩) 1 [m] := ⟨rfl, fun _ => ⟨q, 0, rfl, by omega, fun k z hz => by
  match k, hz with
  | 0, hz => injection hz with hz; subst hz; exact h⟩⟩
theorem qleft' {P : Program} {f : FuncId} {args : Array Value} {w : World} {n : Nat} {p q : Bool} (h : Calls P f args (w.drewN n) fun e w' => e = .returned (.bool p) ∧ w.drewN n = w') (hq : p = q) : Calls P f args (w.drewN n) fun e w'' => e = .returned (.bool q) ∧ ∃ m, w'' = w.drewN m := h.mono fun _ _ ⟨he, hm⟩ => ⟨by rw [he, hq], n, hm.symm⟩
theorem Vs.take {w : World} {B n : Nat} {A : Option Addr} {l : List E2} (h : Vs w B A n l) {k : Nat} (hk : k ≤ n) : Vs w B A k (l.take k) := ⟨by rw [List.length_take, h.1]; omega, fun h0 => by
  obtain ⟨b, o, e, hb, hx⟩ := h.2 (by omega)
  refine ⟨b, o, e, hb, fun j x hj => hx j x ?_⟩
  rw [List.getElem?_take] at hj
  split at hj
  · exact hj
  · cases hj⟩
theorem Vs.drop {w : World} {B n b o : Nat} {l : List E2} (h : Vs w B (some ⟨b, o, none⟩) n l) {k : Nat} (hk : k ≤ n) : Vs w B (some ⟨b, o + k * 2, none⟩) (n - k) (l.drop k) := ⟨by rw [List.length_drop, h.1], fun h0 => by
  obtain ⟨b', o', e, hb, hx⟩ := h.2 (by omega)
  injection e with e
  injection e with e1 e2
  subst e1 e2
  refine ⟨b, o + k * 2, rfl, hb, fun j x hj => ?_⟩
  rw [List.getElem?_drop] at hj
  have := hx _ _ hj
  rw [Nat.add_mul, ← Nat.add_assoc] at this
  exact this⟩
end Go.Proofs.YtjnlbhmddhpmaabDoor.aow
