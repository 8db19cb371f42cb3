/- A slice of slices of versions read as a list of lists; the law's own helpers over stores: how much they count, the copy, the comparison. Nothing that was there is written. -/
import Derived.Test.YtleeglgjaifejaaDoorCh
import Derived.WalkKit
import Derived.ProofKit
import Derived.Below
import Derived.Lib.Hide
import Derived.LoopTactic
import Derived.Deep.QuietTactic
import Derived.BigQuiet
import Derived.StillTailTactics
import Derived.Outline
import Derived.IntWalk
import Derived.Deep.OwnRows
import Derived.Laws.MakeOwn
import Derived.Laws.Entries
namespace Go.Proofs.YtleeglgjaifejaaDoor.st
open Go.ChangeShapes Go.WideShapes Go.ChangeAt Go.RowKit
open Go.Proofs.YtleeglgjaifejaaDoor.vers Go.Proofs.YtleeglgjaifejaaDoor.sl Go.Proofs.YtleeglgjaifejaaDoor.ch
set_option linter.unusedVariables false
set_option linter.unusedSimpArgs false
/-- the cell at a holds a slice that reads as the list l -/
def SlC (w : World) (B : Nat) (a : Addr) (l : List Ver) : Prop := ∃ A n c, w.cell? a = some (.slice A n c) ∧ n ≤ 140737488355328 ∧ Vs w B A n l
/-- the slice value '.slice A n c' reads as the list of lists ll, in memory below B -/
def Rs (w : World) (B : Nat) (A : Option Addr) (n : Nat) (ll : List (List Ver)) : Prop :=
  ll.length = n ∧ (0 < n → ∃ b o, A = some ⟨b, o, none⟩ ∧ b < B ∧ ∀ k l, ll[k]? = some l → SlC w B ⟨b, o + k, none⟩ l)
section
variable {w w' : World} {B B' n : Nat} {A : Option Addr} {ll : List (List Ver)} {l : List Ver}
theorem SlC.below {a : Addr} (h : SlC w B a l) (ha : a.block < B) (hk : Below B w w') : SlC w' B a l := by
  obtain ⟨A, n, c, h0, hn, hv⟩ := h
  exact ⟨A, n, c, (hk.cell ha).trans h0, hn, hv.below hk⟩
theorem SlC.more {a : Addr} (h : SlC w B a l) (hB : B ≤ B') : SlC w B' a l := by
  obtain ⟨A, n, c, h0, hn, hv⟩ := h
  exact ⟨A, n, c, h0, hn, hv.more hB⟩
theorem Rs.nil_ (w : World) (B : Nat) (A : Option Addr) : Rs w B A 0 [] := ⟨rfl, fun h => absurd h (by omega)⟩
theorem Rs.below (h : Rs w B A n ll) (hk : Below B w w') : Rs w' B A n ll := ⟨h.1, fun hn => by
  obtain ⟨b, o, e, hb, hc⟩ := h.2 hn
  exact ⟨b, o, e, hb, fun k x hx => (hc k x hx).below hb hk⟩⟩
theorem Rs.more (h : Rs w B A n ll) (hB : B ≤ B') : Rs w B' A n ll := ⟨h.1, fun hn => by
  obtain ⟨b, o, e, hb, hc⟩ := h.2 hn
  exact ⟨b, o, e, by omega, fun k x hx => (hc k x hx).more hB⟩⟩
theorem Rs.at_ (h : Rs w B A n ll) {k : Nat} (hk : k < n) : ∃ b o l A' n' c', A = some ⟨b, o, none⟩ ∧ b < B ∧ ll[k]? = some l ∧ w.cell? ⟨b, o + k, none⟩ = some (.slice A' n' c') ∧ n' ≤ 140737488355328 ∧ Vs w B A' n' l := by
  obtain ⟨b, o, e, hb, hc⟩ := h.2 (by omega)
  have hl : k < ll.length := by have := h.1; omega
  obtain ⟨A', n', c', h0, h1, h2⟩ := hc k _ (List.getElem?_eq_getElem hl)
  exact ⟨b, o, ll[k], A', n', c', e, hb, List.getElem?_eq_getElem hl, h0, h1, h2⟩
end
/-- the same, of slices of any length that a program can hold -/
def R0 (w : World) (B : Nat) (A : Option Addr) (n : Nat) (ll : List (List Ver)) : Prop :=
  ll.length = n ∧ (0 < n → ∃ b o, A = some ⟨b, o, none⟩ ∧ b < B ∧ ∀ k l, ll[k]? = some l → ∃ A' n' c', w.cell? ⟨b, o + k, none⟩ = some (.slice A' n' c') ∧ n' ≤ 9223372036854775807 ∧ Vs w B A' n' l)
theorem R0.at_ {w : World} {B n : Nat} {A : Option Addr} {ll : List (List Ver)} (h : R0 w B A n ll) {k : Nat} (hk : k < n) : ∃ b o l A' n' c', A = some ⟨b, o, none⟩ ∧ b < B ∧ ll[k]? = some l ∧ w.cell? ⟨b, o + k, none⟩ = some (.slice A' n' c') ∧ n' ≤ 9223372036854775807 ∧ Vs w B A' n' l := by
  obtain ⟨b, o, e, hb, hc⟩ := h.2 (by omega)
  have hl : k < ll.length := by have := h.1; omega
  obtain ⟨A', n', c', h0, h1, h2⟩ := hc k _ (List.getElem?_eq_getElem hl)
  exact ⟨b, o, ll[k], A', n', c', e, hb, List.getElem?_eq_getElem hl, h0, h1, h2⟩
theorem R0.below {w w' : World} {B n : Nat} {A : Option Addr} {ll : List (List Ver)} (h : R0 w B A n ll) (hk : Below B w w') : R0 w' B A n ll := ⟨h.1, fun hn => by
  obtain ⟨b, o, e, hb, hc⟩ := h.2 hn
  refine ⟨b, o, e, hb, fun k x hx => ?_⟩
  obtain ⟨A', n', c', h0, h1, h2⟩ := hc k x hx
  exact ⟨A', n', c', (hk.cell hb).trans h0, h1, h2.below hk⟩⟩
/-! how much is counted -/
theorem lt_get {α : Type} {l : List α} {k : Nat} {x : α} (h : l[k]? = some x) : k < l.length := by
  rcases Nat.lt_or_ge k l.length with h' | h'
  · exact h'
  · rw [List.getElem?_eq_none h'] at h; cases h
def tot (ll : List (List Ver)) : Nat := ll.length + (ll.map List.length).sum
def cnt (ll : List (List Ver)) : Nat := (ll.map List.length).sum
theorem cnt_take {ll : List (List Ver)} {k : Nat} {l : List Ver} (h : ll[k]? = some l) : cnt (ll.take (k + 1)) = cnt (ll.take k) + l.length := by
  have hk := lt_get h
  rw [List.getElem?_eq_getElem hk] at h
  unfold cnt
  rw [List.take_succ_eq_append_getElem hk, List.map_append, List.sum_append, Option.some.inj h]
  simp
theorem cnt_le (ll : List (List Ver)) (k : Nat) : cnt (ll.take k) ≤ cnt ll := by
  have : cnt ll = cnt (ll.take k) + cnt (ll.drop k) := by
    unfold cnt
    rw [← List.sum_append, ← List.map_append, List.take_append_drop]
  omega
theorem cnt_all {ll : List (List Ver)} {n : Nat} (h : ll.length = n) : cnt (ll.take n) = cnt ll := by rw [List.take_of_length_le (by omega)]
theorem len_le {ll : List (List Ver)} {k : Nat} {l : List Ver} (h : ll[k]? = some l) : l.length ≤ cnt ll := by
  have := cnt_take h
  have := cnt_le ll (k + 1)
  omega
theorem tot_eq (ll : List (List Ver)) : tot ll = ll.length + cnt ll := rfl
def szR (left : Int) (ll : List (List Ver)) : Int := if left < tot ll then -1 else left - tot ll
theorem szR_no {left : Int} {ll : List (List Ver)} (h : left < tot ll) : szR left ll = -1 := if_pos h
theorem szR_yes {left : Int} {ll : List (List Ver)} (h : (tot ll : Int) ≤ left) : szR left ll = left - tot ll := if_neg (by omega)
theorem ret_i {a b : Int} (h : a = b) : Ending.returned (.int .i64 a) = .returned (.int .i64 b) := by rw [h]
theorem R0.tight {w : World} {B n : Nat} {A : Option Addr} {ll : List (List Ver)} (h : R0 w B A n ll) (hc : cnt ll ≤ 140737488355328) : Rs w B A n ll := ⟨h.1, fun hn => by
  obtain ⟨b, o, e, hb, hx⟩ := h.2 hn
  refine ⟨b, o, e, hb, fun k l hl => ?_⟩
  obtain ⟨A', n', c', h0, h1, h2⟩ := hx k l hl
  have := len_le hl
  have := h2.1
  exact ⟨A', n', c', h0, by omega, h2⟩⟩
theorem R0.len {w : World} {B n : Nat} {A : Option Addr} {ll : List (List Ver)} (h : R0 w B A n ll) : ll.length = n := h.1
/-! the copy -/
/-- block N is a row of n slices; the first k are rows of the call's own, each in a block above N and above those before it, that read as the lists of ll, the others are nil -/
def RR (w : World) (N n : Nat) (ll : List (List Ver)) (k : Nat) : Prop :=
  ∃ (f : Nat → Value) (Mf : Nat → Nat), w.rowIs N 44 n f ∧ (∀ i, k ≤ i → i < n → f i = .slice none 0 0) ∧ (∀ i j, i < j → j < k → Mf i < Mf j) ∧ ∀ i l, i < k → ll[i]? = some l → f i = .slice (some ⟨Mf i, 0, none⟩) l.length l.length ∧ N < Mf i ∧ Row w (Mf i) l.length l l.length
section
variable {w w' : World} {N n k : Nat} {ll : List (List Ver)}
theorem RR.lt (h : RR w N n ll k) : N < w.heap.size := by obtain ⟨f, Mf, hf, _⟩ := h; exact hf.lt
theorem RR.frozen (h : RR w N n ll k) (i : Nat) : w.frozen? ⟨N, i, none⟩ = false := by obtain ⟨f, Mf, hf, _⟩ := h; exact hf.frozen i
theorem RR.cell (h : RR w N n ll k) {i : Nat} (hi : i < n) : ∃ u, w.cell? ⟨N, i, none⟩ = some u := by obtain ⟨f, Mf, hf, _⟩ := h; exact ⟨_, hf.cell hi⟩
theorem RR.below (h : RR w N n ll k) (hb : Below w.heap.size w w') : RR w' N n ll k := by
  obtain ⟨f, Mf, hf, hz, hd, hr⟩ := h
  refine ⟨f, Mf, hf.of_block (hb.block N hf.lt), hz, hd, fun i l hi hl => ?_⟩
  obtain ⟨h1, h2, h3⟩ := hr i l hi hl
  exact ⟨h1, h2, h3.below hb h3.lt⟩
/-- a new row, behind all that was there in w, is the next one -/
theorem RR.set (h : RR w N n ll k) (hln : ll.length = n) (hb : Below w.heap.size w w') (hk : k < n) {l : List Ver} (hl : ll[k]? = some l) {M : Nat} (hM : w.heap.size ≤ M) (hR : Row w' M l.length l l.length) :
    RR (w'.setCell ⟨N, k, none⟩ (.slice (some ⟨M, 0, none⟩) l.length l.length)) N n ll (k + 1) := by
  have hN := h.lt
  have hlt : ∀ (f : Nat → Value) (Mf : Nat → Nat), (∀ i l, i < k → ll[i]? = some l → f i = .slice (some ⟨Mf i, 0, none⟩) l.length l.length ∧ N < Mf i ∧ Row w (Mf i) l.length l l.length) → ∀ i, i < k → Mf i < w.heap.size := fun f Mf hr i hi => by
    obtain ⟨_, _, h3⟩ := hr i ll[i] hi (List.getElem?_eq_getElem (by omega))
    exact h3.lt
  obtain ⟨f, Mf, hf, hz, hd, hr⟩ := h
  have hlt := hlt f Mf hr
  refine ⟨_, fun i => if i = k then M else Mf i, (hf.of_block (hb.block N hN)).set k _, fun i h1 h2 => ?_, fun i j hi hj => ?_, fun i l' hi hl' => ?_⟩
  · rw [if_neg (by omega)]; exact hz i (by omega) h2
  · by_cases e : j = k
    · show (if i = k then M else Mf i) < (if j = k then M else Mf j)
      rw [if_pos e, if_neg (by omega)]
      have := hlt i (by omega)
      omega
    · show (if i = k then M else Mf i) < (if j = k then M else Mf j)
      rw [if_neg e, if_neg (by omega)]
      exact hd i j hi (by omega)
  · by_cases hik : i = k
    · subst hik
      rw [hl] at hl'
      injection hl' with hl'
      subst hl'
      simp only [if_true]
      exact ⟨trivial, by omega, World.rowIs.setOther hR (by simp; omega) _⟩
    · simp only [if_neg hik]
      obtain ⟨h1, h2, h3⟩ := hr i l' (by omega) hl'
      exact ⟨h1, h2, World.rowIs.setOther (h3.below hb h3.lt) (by simp; omega) _⟩
theorem RR.low (h : RR w N n ll k) {p : Addr} (hp : p.block < N) (v : Value) : RR (w.setCell p v) N n ll k := by
  obtain ⟨f, Mf, hf, hz, hd, hr⟩ := h
  refine ⟨f, Mf, World.rowIs.setOther hf (by omega) _, hz, hd, fun i l hi hl => ?_⟩
  obtain ⟨h1, h2, h3⟩ := hr i l hi hl
  exact ⟨h1, h2, World.rowIs.setOther h3 (by omega) _⟩
theorem RR.rs (h : RR w N n ll n) (hl : ll.length = n) (hc : cnt ll ≤ 140737488355328) : Rs w w.heap.size (some ⟨N, 0, none⟩) n ll := ⟨hl, fun hn => by
  obtain ⟨f, Mf, hf, hz, hd, hr⟩ := h
  refine ⟨N, 0, rfl, hf.lt, fun k l hx => ?_⟩
  have hk := lt_get hx
  obtain ⟨h1, h2, h3⟩ := hr k l (by omega) hx
  have := len_le hx
  refine ⟨some ⟨Mf k, 0, none⟩, l.length, l.length, ?_, by omega, (h3.vs rfl).more h3.lt⟩
  rw [show (0 : Nat) + k = k by omega, hf.cell (by omega), h1]⟩
end
theorem info_row : (Tryd.prog.info? 44).map (fun i => (i.zero, i.size, i.bytes)) = some (some (.slice none 0 0), 1, 24) := by kernel_rfl
theorem make_rows (n : Nat) (hn : n ≤ 2097152) (w : World) :
    (Instr.makeSlice 24 (.int .i64 (n : Int)) (.int .i64 (n : Int))).run Tryd.prog w = .ok (.slice (some ⟨w.heap.size, 0, none⟩) n n) (w.alloc (.cells (madeCells #[.slice none 0 0] n) 44)) := by
  obtain ⟨i0, hi, hz0, hz1, hz2⟩ := info_parts info_row
  have hr := run_make (P := Tryd.prog) w 24 44 i0 _ Tryd.underlying24 hi hz0 .i64 .i64 n n (by omega) (by omega) (by rw [hz2]; omega) (by omega)
  simp only [Int.toNat_natCast, hz1, Value.cells, Nat.mul_one] at hr
  exact hr
theorem RR.made (w : World) (n : Nat) (ll : List (List Ver)) : RR (w.alloc (.cells (madeCells #[.slice none 0 0] n) 44)) w.heap.size n ll 0 :=
  ⟨_, fun _ => 0, World.rowIs_made w (.slice none 0 0) n 44, fun i _ _ => rfl, fun i j _ h => absurd h (by omega), fun i l h => absurd h (by omega)⟩
/-- the copy, as a law takes it: a store of its own, its rows each in a block of its own -/
def StoredR (n : Nat) (ll : List (List Ver)) (w : World) (e : Ending) (w' : World) : Prop := ∃ N, e = .returned (.agg #[.slice (some ⟨N, 0, none⟩) n n]) ∧ w.heap.size ≤ N ∧ RR w' N n ll n ∧ Below w.heap.size w w'
/-- a store of its own that reads as the same list of lists -/
def Stored (n : Nat) (ll : List (List Ver)) (w : World) (e : Ending) (w' : World) : Prop := ∃ N, e = .returned (.agg #[.slice (some ⟨N, 0, none⟩) n n]) ∧ w.heap.size ≤ N ∧ Rs w' w'.heap.size (some ⟨N, 0, none⟩) n ll ∧ Below w.heap.size w w'
/-- a new one-cell block -/
theorem one_cell (w : World) (v : Value) (t : TypeId) : (w.alloc (.cells #[v] t)).cell? ⟨w.heap.size, 0, none⟩ = some v := World.cell?_alloc_mark w _ t _ 0
theorem one_free (w : World) (v : Value) (t : TypeId) : (w.alloc (.cells #[v] t)).frozen? ⟨w.heap.size, 0, none⟩ = false := World.frozen?_alloc_new _ _ _ _
theorem up {w : World} (o : Obj) {p : Addr} {v : Value} (h : w.cell? p = some v) (hp : p.block < w.heap.size) : (w.alloc o).cell? p = some v := (World.cell?_alloc_lt w o p hp).trans h
theorem free_up {w : World} (o : Obj) {p : Addr} {x : Bool} (h : w.frozen? p = x) (hp : p.block < w.heap.size) : (w.alloc o).frozen? p = x := ((new1 w o).frozen hp).trans h
theorem set_same {w : World} {v u : Value} {a : Addr} (h : w.cell? a = some u) : (w.setCell a v).cell? a = some v := by
  apply World.cell?_setCell_same
  exact h
theorem set_other {w : World} {v u : Value} {a b : Addr} (h : w.cell? b = some u) (hn : a.block ≠ b.block) : (w.setCell a v).cell? b = some u := by
  rw [World.cell?_setCell_other w a b v (fun e => hn (by rw [e]))]; exact h
theorem set_free {w : World} {v : Value} {a b : Addr} {x : Bool} (h : w.frozen? b = x) : (w.setCell a v).frozen? b = x := (World.frozen?_setCell _ _ _ _).trans h
/-! the comparison -/
/-! a key -/
theorem is_key (x : Int) (w : World) :
    Calls Tryd.prog 37 #[.int .i64 x] w fun e w' => e = .returned (.bool (In 0 5 x)) ∧ w = w' := by
  go_enter Tryd.func37, Tryd.ntmps37
  by_cases h : 0 ≤ x
  · have d : decide (0 ≤ x) = true := decide_eq_true h
    by_cases h2 : x < 6
    · have d2 : decide (x ≤ 5) = true := decide_eq_true (by omega)
      go_wp2
      go_ret
      simp [In, d, d2, h2]
    · have d2 : decide (x ≤ 5) = false := decide_eq_false (by omega)
      go_wp2
      go_ret
      simp [In, d, d2, h2]
  · have d : decide (0 ≤ x) = false := decide_eq_false h
    go_wp2
    go_ret
    simp [In, d]
end Go.Proofs.YtleeglgjaifejaaDoor.st
