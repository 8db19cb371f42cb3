/- A slice of slices of versions read as a list of lists; the law's own helpers over stores: how much they count, the copy, the comparison. Nothing that was there is written. -/
import Derived.Test.YtjnlbhmddhpmaabDoorCh
import Derived.WalkKit
import Derived.ProofKit
import Derived.Below
import Derived.Lib.Hide
import Derived.LoopTactic
import Derived.Deep.QuietTactic
import Derived.BigQuiet
import Derived.StillTailTactics
import Derived.Outline
import Derived.IntWalk
import Derived.Deep.OwnRows
import Derived.Laws.MakeOwn
import Derived.Laws.Entries
namespace Go.Proofs.YtjnlbhmddhpmaabDoor.st
open Go.ChangeShapes Go.WideShapes Go.ChangeAt Go.RowKit
open Go.Proofs.YtjnlbhmddhpmaabDoor.vers Go.Proofs.YtjnlbhmddhpmaabDoor.sl Go.Proofs.YtjnlbhmddhpmaabDoor.ch
set_option linter.unusedVariables false
set_option linter.unusedSimpArgs false
/-- the cell at a holds a slice that reads as the list l -/
def SlC (w : World) (B : Nat) (a : Addr) (l : List Ver) : Prop := ∃ A n c, w.cell? a = some (.slice A n c) ∧ n ≤ 140737488355328 ∧ Vs w B A n l
/-- the slice value '.slice A n c' reads as the list of lists ll, in memory below B -/
def Rs (w : World) (B : Nat) (A : Option Addr) (n : Nat) (ll : List (List Ver)) : Prop :=
  ll.length = n ∧ (0 < n → ∃ b o, A = some ⟨b, o, none⟩ ∧ b < B ∧ ∀ k l, ll[k]? = some l → SlC w B ⟨b, o + k, none⟩ l)
section
variable {w w' : World} {B B' n : Nat} {A : Option Addr} {ll : List (List Ver)} {l : List Ver}
theorem SlC.below {a : Addr} (h : SlC w B a l) (ha : a.block < B) (hk : Below B w w') : SlC w' B a l := by
  obtain ⟨A, n, c, h0, hn, hv⟩ := h
  exact ⟨A, n, c, (hk.cell ha).trans h0, hn, hv.below hk⟩
theorem SlC.more {a : Addr} (h : SlC w B a l) (hB : B ≤ B') : SlC w B' a l := by
  obtain ⟨A, n, c, h0, hn, hv⟩ := h
  exact ⟨A, n, c, h0, hn, hv.more hB⟩
theorem Rs.nil_ (w : World) (B : Nat) (A : Option Addr) : Rs w B A 0 [] := ⟨rfl, fun h => absurd h (by omega)⟩
theorem Rs.below (h : Rs w B A n ll) (hk : Below B w w') : Rs w' B A n ll := ⟨h.1, fun hn => by
  obtain ⟨b, o, e, hb, hc⟩ := h.2 hn
  exact ⟨b, o, e, hb, fun k x hx => (hc k x hx).below hb hk⟩⟩
theorem Rs.more (h : Rs w B A n ll) (hB : B ≤ B') : Rs w B' A n ll := ⟨h.1, fun hn => by
  obtain ⟨b, o, e, hb, hc⟩ := h.2 hn
  exact ⟨b, o, e, by omega, fun k x hx => (hc k x hx).more hB⟩⟩
theorem Rs.at_ (h : Rs w B A n ll) {k : Nat} (hk : k < n) : ∃ b o l A' n' c', A = some ⟨b, o, none⟩ ∧ b < B ∧ ll[k]? = some l ∧ w.cell? ⟨b, o + k, none⟩ = some (.slice A' n' c') ∧ n' ≤ 140737488355328 ∧ Vs w B A' n' l := by
  obtain ⟨b, o, e, hb, hc⟩ := h.2 (by omega)
  have hl : k < ll.length := by have := h.1; omega
  obtain ⟨A', n', c', h0, h1, h2⟩ := hc k _ (List.getElem?_eq_getElem hl)
  exact ⟨b, o, ll[k], A', n', c', e, hb, List.getElem?_eq_getElem hl, h0, h1, h2⟩
end
/-- the same, of slices of any length that a program can hold -/
def R0 (w : World) (B : Nat) (A : Option Addr) (n : Nat) (ll : List (List Ver)) : Prop :=
  ll.length = n ∧ (0 < n → ∃ b o, A = some ⟨b, o, none⟩ ∧ b < B ∧ ∀ k l, ll[k]? = some l → ∃ A' n' c', w.cell? ⟨b, o + k, none⟩ = some (.slice A' n' c') ∧ n' ≤ 9223372036854775807 ∧ Vs w B A' n' l)
theorem R0.at_ {w : World} {B n : Nat} {A : Option Addr} {ll : List (List Ver)} (h : R0 w B A n ll) {k : Nat} (hk : k < n) : ∃ b o l A' n' c', A = some ⟨b, o, none⟩ ∧ b < B ∧ ll[k]? = some l ∧ w.cell? ⟨b, o + k, none⟩ = some (.slice A' n' c') ∧ n' ≤ 9223372036854775807 ∧ Vs w B A' n' l := by
  obtain ⟨b, o, e, hb, hc⟩ := h.2 (by omega)
  have hl : k < ll.length := by have := h.1; omega
  obtain ⟨A', n', c', h0, h1, h2⟩ := hc k _ (List.getElem?_eq_getElem hl)
  exact ⟨b, o, ll[k], A', n', c', e, hb, List.getElem?_eq_getElem hl, h0, h1, h2⟩
theorem R0.below {w w' : World} {B n : Nat} {A : Option Addr} {ll : List (List Ver)} (h : R0 w B A n ll) (hk : Below B w w') : R0 w' B A n ll := ⟨h.1, fun hn => by
  obtain ⟨b, o, e, hb, hc⟩ := h.2 hn
  refine ⟨b, o, e, hb, fun k x hx => ?_⟩
  obtain ⟨A', n', c', h0, h1, h2⟩ := hc k x hx
  exact ⟨A', n', c', (hk.cell hb).trans h0, h1, h2.below hk⟩⟩
/-! how much is counted -/
theorem lt_get {α : Type} {l : List α} {k : Nat} {x : α} (h : l[k]? = some x) : k < l.length := by
  rcases Nat.lt_or_ge k l.length with h' | h'
  · exact h'
  · rw [List.getElem?_eq_none h'] at h; cases h
def tot (ll : List (List Ver)) : Nat := ll.length + (ll.map List.length).sum
def cnt (ll : List (List Ver)) : Nat := (ll.map List.length).sum
theorem cnt_take {ll : List (List Ver)} {k : Nat} {l : List Ver} (h : ll[k]? = some l) : cnt (ll.take (k + 1)) = cnt (ll.take k) + l.length := by
  have hk := lt_get h
  rw [List.getElem?_eq_getElem hk] at h
  unfold cnt
  rw [List.take_succ_eq_append_getElem hk, List.map_append, List.sum_append, Option.some.inj h]
  simp
theorem cnt_le (ll : List (List Ver)) (k : Nat) : cnt (ll.take k) ≤ cnt ll := by
  have : cnt ll = cnt (ll.take k) + cnt (ll.drop k) := by
    unfold cnt
    rw [← List.sum_append, ← List.map_append, List.take_append_drop]
  omega
theorem cnt_all {ll : List (List Ver)} {n : Nat} (h : ll.length = n) : cnt (ll.take n) = cnt ll := by rw [List.take_of_length_le (by omega)]
theorem len_le {ll : List (List Ver)} {k : Nat} {l : List Ver} (h : ll[k]? = some l) : l.length ≤ cnt ll := by
  have := cnt_take h
  have := cnt_le ll (k + 1)
  omega
theorem tot_eq (ll : List (List Ver)) : tot ll = ll.length + cnt ll := rfl
def szR (left : Int) (ll : List (List Ver)) : Int := if left < tot ll then -1 else left - tot ll
theorem szR_no {left : Int} {ll : List (List Ver)} (h : left < tot ll) : szR left ll = -1 := if_pos h
theorem szR_yes {left : Int} {ll : List (List Ver)} (h : (tot ll : Int) ≤ left) : szR left ll = left - tot ll := if_neg (by omega)
theorem ret_i {a b : Int} (h : a = b) : Ending.returned (.int .i64 a) = .returned (.int .i64 b) := by rw [h]
theorem R0.tight {w : World} {B n : Nat} {A : Option Addr} {ll : List (List Ver)} (h : R0 w B A n ll) (hc : cnt ll ≤ 140737488355328) : Rs w B A n ll := ⟨h.1, fun hn => by
  obtain ⟨b, o, e, hb, hx⟩ := h.2 hn
  refine ⟨b, o, e, hb, fun k l hl => ?_⟩
  obtain ⟨A', n', c', h0, h1, h2⟩ := hx k l hl
  have := len_le hl
  have := h2.1
  exact ⟨A', n', c', h0, by omega, h2⟩⟩
theorem R0.len {w : World} {B n : Nat} {A : Option Addr} {ll : List (List Ver)} (h : R0 w B A n ll) : ll.length = n := h.1
/-! the copy -/
section
variable {w w' : World} {N n k : Nat} {ll : List (List Ver)}
end
/-- a store of its own that reads as the same list of lists -/
def Stored (n : Nat) (ll : List (List Ver)) (w : World) (e : Ending) (w' : World) : Prop := ∃ N, e = .returned (.agg #[.slice (some ⟨N, 0, none⟩) n n]) ∧ w.heap.size ≤ N ∧ Rs w' w'.heap.size (some ⟨N, 0, none⟩) n ll ∧ Below w.heap.size w w'
/-- a new one-cell block -/
theorem one_cell (w : World) (v : Value) (t : TypeId) : (w.alloc (.cells #[v] t)).cell? ⟨w.heap.size, 0, none⟩ = some v := World.cell?_alloc_mark w _ t _ 0
theorem one_free (w : World) (v : Value) (t : TypeId) : (w.alloc (.cells #[v] t)).frozen? ⟨w.heap.size, 0, none⟩ = false := World.frozen?_alloc_new _ _ _ _
theorem up {w : World} (o : Obj) {p : Addr} {v : Value} (h : w.cell? p = some v) (hp : p.block < w.heap.size) : (w.alloc o).cell? p = some v := (World.cell?_alloc_lt w o p hp).trans h
theorem free_up {w : World} (o : Obj) {p : Addr} {x : Bool} (h : w.frozen? p = x) (hp : p.block < w.heap.size) : (w.alloc o).frozen? p = x := ((new1 w o).frozen hp).trans h
theorem set_same {w : World} {v u : Value} {a : Addr} (h : w.cell? a = some u) : (w.setCell a v).cell? a = some v := by
  apply World.cell?_setCell_same
  exact h
theorem set_other {w : World} {v u : Value} {a b : Addr} (h : w.cell? b = some u) (hn : a.block ≠ b.block) : (w.setCell a v).cell? b = some u := by
  rw [World.cell?_setCell_other w a b v (fun e => hn (by rw [e]))]; exact h
theorem set_free {w : World} {v : Value} {a b : Addr} {x : Bool} (h : w.frozen? b = x) : (w.setCell a v).frozen? b = x := (World.frozen?_setCell _ _ _ _).trans h
/-! the comparison -/
/-! a key -/
theorem is_key (x : Int) (w : World) :
    Calls Tryd.prog 31 #[.int .i64 x] w fun e w' => e = .returned (.bool (In 0 5 x)) ∧ w = w' := by
  go_enter Tryd.func31, Tryd.ntmps31
  by_cases h : 0 ≤ x
  · have d : decide (0 ≤ x) = true := decide_eq_true h
    by_cases h2 : x < 6
    · have d2 : decide (x ≤ 5) = true := decide_eq_true (by omega)
      go_wp2
      go_ret
      simp [In, d, d2, h2]
    · have d2 : decide (x ≤ 5) = false := decide_eq_false (by omega)
      go_wp2
      go_ret
      simp [In, d, d2, h2]
  · have d : decide (0 ≤ x) = false := decide_eq_false h
    go_wp2
    go_ret
    simp [In, d]
end Go.Proofs.YtjnlbhmddhpmaabDoor.st
