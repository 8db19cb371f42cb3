/- Structs of 2 integers: a slice of them reads as a list; rows of the call's own; marks; their cells one after the other. Plain, but for the worlds. -/
import Derived.Test.YtjnlbhmddhpmaaaGreatRows
import Derived.WalkKit
import Derived.ProofKit
import Derived.Below
import Derived.Lib.Hide
import Derived.Deep.OwnRows
import Derived.Laws.MakeOwn
import Derived.Laws.Entries
import Derived.Laws.AppendOwn
import Derived.Laws.OwnMore
namespace Go.Proofs.YtjnlbhmddhpmaaaGreat.el2
open Go.ChangeShapes Go.WideShapes Go.ChangeAt Go.RowKit
set_option linter.unusedVariables false
set_option linter.unusedSimpArgs false
@[ext] structure E2 where
  a : Int
  b : Int
instance : DecidableEq E2 := fun x y => decidable_of_iff (x.a = y.a ∧ x.b = y.b) (by cases x; cases y; simp)
instance : Inhabited E2 := ⟨⟨0, 0⟩⟩
/-- the cells of one of them, as a value -/
abbrev ag (x : E2) : Value := .agg #[.int .i64 x.a, .int .i64 x.b]
/-- its cells -/
def At (w : World) (b o : Nat) (x : E2) : Prop := w.cell? ⟨b, o, none⟩ = some (.int .i64 x.a) ∧ w.cell? ⟨b, o + 1, none⟩ = some (.int .i64 x.b)
/-- the slice value '.slice A n c' reads as the list l, in memory below B -/
def Vs (w : World) (B : Nat) (A : Option Addr) (n : Nat) (l : List E2) : Prop :=
  l.length = n ∧ (0 < n → ∃ b o, A = some ⟨b, o, none⟩ ∧ b < B ∧ ∀ k x, l[k]? = some x → At w b (o + k * 2) x)
theorem below_le {B B' : Nat} {w w' : World} (h : Below B w w') (hb : B' ≤ B) : Below B' w w' := ⟨h.os, h.tape, h.output, h.size, fun k hk => h.block k (by omega)⟩
theorem new1 (w : World) (o : Obj) : Below w.heap.size w (w.alloc o) := (Below.refl _ _).alloc (Nat.le_refl _) o
theorem lt_get {α : Type} {l : List α} {k : Nat} {x : α} (h : l[k]? = some x) : k < l.length := by
  rcases Nat.lt_or_ge k l.length with h' | h'
  · exact h'
  · rw [List.getElem?_eq_none h'] at h; cases h
section
variable {w w' : World} {B B' n : Nat} {A : Option Addr} {l : List E2}
theorem Vs.nil_ (w : World) (B : Nat) (A : Option Addr) : Vs w B A 0 [] := ⟨rfl, fun h => absurd h (by omega)⟩
theorem At.of_block {b o : Nat} {x : E2} (h : At w b o x) (hk : w'.heap[b]? = w.heap[b]?) : At w' b o x :=
  ⟨(World.cell?_of_block (w := w) (a := ⟨b, o, none⟩) hk).trans h.1, (World.cell?_of_block (w := w) (a := ⟨b, o + 1, none⟩) hk).trans h.2⟩
theorem At.keep {b o : Nat} {x : E2} (h : At w b o x) (hb : b < B) (hk : Below B w w') : At w' b o x := h.of_block (hk.block b hb)
theorem Vs.below (h : Vs w B A n l) (hk : Below B w w') : Vs w' B A n l := ⟨h.1, fun hn => by
  obtain ⟨b, o, e, hb, hc⟩ := h.2 hn
  exact ⟨b, o, e, hb, fun k x hx => (hc k x hx).keep hb hk⟩⟩
theorem Vs.more (h : Vs w B A n l) (hB : B ≤ B') : Vs w B' A n l := ⟨h.1, fun hn => by
  obtain ⟨b, o, e, hb, hc⟩ := h.2 hn
  exact ⟨b, o, e, by omega, hc⟩⟩
/-- the blocks that it names are as they were -/
theorem Vs.keep (h : Vs w B A n l) (hne : ∀ q o, A = some ⟨q, o, none⟩ → 0 < n → q < B → w'.heap[q]? = w.heap[q]?) : Vs w' B A n l := by
  refine ⟨h.1, fun hn => ?_⟩
  obtain ⟨q, o, e, hq, hc⟩ := h.2 hn
  exact ⟨q, o, e, hq, fun k x hx => (hc k x hx).of_block (hne q o e hn hq)⟩
theorem Vs.at_ (h : Vs w B A n l) {k : Nat} (hk : k < n) : ∃ b o x, A = some ⟨b, o, none⟩ ∧ b < B ∧ l[k]? = some x ∧ At w b (o + k * 2) x := by
  obtain ⟨b, o, e, hb, hc⟩ := h.2 (by omega)
  have hl : k < l.length := by have := h.1; omega
  exact ⟨b, o, l[k], e, hb, List.getElem?_eq_getElem hl, hc k _ (List.getElem?_eq_getElem hl)⟩
end
theorem boxed (w : World) (x : E2) (t : TypeId) : At (w.alloc (.cells #[.int .i64 x.a, .int .i64 x.b] t)) w.heap.size 0 x :=
  ⟨World.cell?_alloc_mark w _ t _ 0, World.cell?_alloc_mark w _ t _ 1⟩
theorem atFlat {w : World} {b : Nat} {x : E2} (h : At w b 0 x) : w.cell? ⟨b, 0, none⟩ = some (.int .i64 x.a) ∧ w.cell? ⟨b, 1, none⟩ = some (.int .i64 x.b) := h
/-! rows of the call's own -/
def fld (x : E2) : Nat → Value
  | 0 => .int .i64 x.a
  | _ => .int .i64 x.b
/-- block N is a row of n of them; the first k are those of l, the others are zero -/
def Row (t : TypeId) (w : World) (N n : Nat) (l : List E2) (k : Nat) : Prop := w.rowIs N t (n * 2) (fun i => if i < k * 2 then fld (l.getD (i / 2) default) (i % 2) else .int .i64 0)
section
variable {w w' : World} {N n k : Nat} {l : List E2} {t : TypeId}
theorem Row.of_block (h : Row t w N n l k) (hb : w'.heap[N]? = w.heap[N]?) : Row t w' N n l k := World.rowIs.of_block h hb
theorem Row.below {B : Nat} (h : Row t w N n l k) (hb : Below B w w') (hN : N < B) : Row t w' N n l k := World.rowIs.of_block h (hb.block N hN)
theorem Row.lt (h : Row t w N n l k) : N < w.heap.size := World.rowIs.lt h
theorem Row.cell (h : Row t w N n l k) {i : Nat} (hi : i < n * 2) : ∃ u, w.cell? ⟨N, i, none⟩ = some u := ⟨_, World.rowIs.cell h hi⟩
theorem Row.frozen (h : Row t w N n l k) (i : Nat) : w.frozen? ⟨N, i, none⟩ = false := World.rowIs.frozen h i
theorem Row.set (h : Row t w N n l k) (hk : k < n) {x : E2} (hx : l[k]? = some x) :
    Row t ((w.setCell ⟨N, k * 2, none⟩ (.int .i64 x.a)).setCell ⟨N, k * 2 + 1, none⟩ (.int .i64 x.b)) N n l (k + 1) := by
  have hd : l.getD k default = x := by simp [List.getD, hx]
  refine ((World.rowIs.set h (k * 2) _).set (k * 2 + 1) _).congr fun i hi => ?_
  by_cases h0 : i < k * 2
  · rw [if_neg (by omega), if_neg (by omega), if_pos h0, if_pos (by omega)]
  · by_cases h5 : i < (k + 1) * 2
    · rw [if_pos h5]
      have e : i / 2 = k := by omega
      rw [e, hd]
      have hc : i = k * 2 ∨ i = k * 2 + 1 := by omega
      rcases hc with rfl | rfl
      · rw [if_neg (by omega), if_pos rfl, show (k * 2) % 2 = 0 by omega]; rfl
      · rw [if_pos rfl, show (k * 2 + 1) % 2 = 1 by omega]; rfl
    · rw [if_neg (by omega), if_neg (by omega), if_neg h0, if_neg h5]
theorem Row.vs (h : Row t w N n l n) (hl : l.length = n) : Vs w (N + 1) (some ⟨N, 0, none⟩) n l := ⟨hl, fun hn => by
  refine ⟨N, 0, rfl, by omega, fun k x hx => ?_⟩
  have hk : k < n := by have := lt_get hx; omega
  have hd : l.getD k default = x := by simp [List.getD, hx]
  have c := fun i (hi : i < n * 2) => World.rowIs.cell h hi
  refine ⟨?_, ?_⟩
  · rw [show (0 : Nat) + k * 2 = k * 2 by omega, c _ (by omega), if_pos (by omega), show (k * 2) / 2 = k by omega, show (k * 2) % 2 = 0 by omega, hd]; rfl
  · rw [show (0 : Nat) + k * 2 + 1 = k * 2 + 1 by omega, c _ (by omega), if_pos (by omega), show (k * 2 + 1) / 2 = k by omega, show (k * 2 + 1) % 2 = 1 by omega, hd]; rfl⟩
end
theorem zeros (t : TypeId) (n : Nat) (w : World) : ∀ i, i < n * 2 → (madeCells #[.int .i64 0, .int .i64 0] (n * 2))[i]? = some (.int .i64 0) := by
  intro i hi
  have h5 : i % 2 = 0 ∨ i % 2 = 1 := by omega
  simp only [madeCells, Array.getElem?_map, Array.getElem?_range, hi, if_true, Option.map_some]
  rcases h5 with h | h <;> simp [h]
theorem Row.made (t : TypeId) (w : World) (n : Nat) (l : List E2) :
    Row t (w.alloc (.cells (madeCells #[.int .i64 0, .int .i64 0] (n * 2)) t)) w.heap.size n l 0 := by
  refine ⟨_, heap_alloc_new w _, size_madeCells _ _, fun i hi => ?_⟩
  rw [zeros t n w i hi]
  show _ = some (if i < 0 * 2 then _ else _)
  rw [if_neg (by omega)]
/-- the copy, as a law takes it: a slice of its own that reads as the same list -/
def Copied (t : TypeId) (n : Nat) (l : List E2) (w : World) (e : Ending) (w' : World) : Prop := ∃ N, e = .returned (.slice (some ⟨N, 0, none⟩) n n) ∧ w.heap.size ≤ N ∧ N < w'.heap.size ∧ Row t w' N n l n ∧ Below w.heap.size w w'
/-! marks -/
/-- block g, of M cells, bears the marks k0, k0 + 1, .. of the first j of them -/
def MK (t : TypeId) (w : World) (g M : Nat) (k0 : Int) (j : Nat) : Prop := ∃ f, w.rowIs g t M f ∧ ∀ i, i < j * 2 → f i = .int .i64 (k0 + i)
/-- only block b may have changed -/
structure Off (b : Nat) (w w' : World) : Prop where
  os : w'.os = w.os
  tape : w'.tape = w.tape
  output : w'.output = w.output
  size : w'.heap.size = w.heap.size
  block : ∀ k, k ≠ b → w'.heap[k]? = w.heap[k]?
section
variable {w w' a : World} {g M j b : Nat} {k0 : Int} {t : TypeId}
theorem Off.refl (b : Nat) (w : World) : Off b w w := ⟨rfl, rfl, rfl, rfl, fun _ _ => rfl⟩
theorem Off.setCell (h : Off b a w) {p : Addr} (hp : p.block = b) (u : Value) : Off b a (w.setCell p u) :=
  ⟨h.os, h.tape, h.output, by simpa [World.setCell] using h.size, fun k hk => (Below.heap_setCell w p u k (by rw [hp]; exact hk)).trans (h.block k hk)⟩
theorem Off.below {B : Nat} (h : Off b w w') (hB : B ≤ b) : Below B w w' := ⟨h.os, h.tape, h.output, by rw [h.size]; exact Nat.le_refl _, fun k hk => h.block k (by omega)⟩
theorem ival {a b : Int} (h : a = b) : Value.int .i64 a = .int .i64 b := by rw [h]
theorem MK.lt (h : MK t w g M k0 j) : g < w.heap.size := by obtain ⟨f, hf, _⟩ := h; exact hf.lt
theorem MK.of_block (h : MK t w g M k0 j) (hb : w'.heap[g]? = w.heap[g]?) : MK t w' g M k0 j := by
  obtain ⟨f, hf, hm⟩ := h
  exact ⟨f, hf.of_block hb, hm⟩
theorem MK.below {B : Nat} (h : MK t w g M k0 j) (hb : Below B w w') (hg : g < B) : MK t w' g M k0 j := h.of_block (hb.block g hg)
theorem MK.cell (h : MK t w g M k0 j) {i : Nat} (hi : i < j * 2) (hM : j * 2 ≤ M) : w.cell? ⟨g, i, none⟩ = some (.int .i64 (k0 + i)) := by
  obtain ⟨f, hf, hm⟩ := h
  rw [hf.cell (by omega), hm i hi]
theorem MK.any (h : MK t w g M k0 j) {i : Nat} (hi : i < M) : ∃ u, w.cell? ⟨g, i, none⟩ = some u := by
  obtain ⟨f, hf, hm⟩ := h
  exact ⟨_, hf.cell hi⟩
theorem MK.frozen (h : MK t w g M k0 j) (i : Nat) : w.frozen? ⟨g, i, none⟩ = false := by
  obtain ⟨f, hf, hm⟩ := h
  exact hf.frozen i
theorem MK.step {x : Int} (h : MK t w g M k0 j) (hx : x = k0 + (j * 2 : Nat)) :
    MK t ((w.setCell ⟨g, j * 2, none⟩ (.int .i64 x)).setCell ⟨g, j * 2 + 1, none⟩ (.int .i64 (x + 1))) g M k0 (j + 1) := by
  obtain ⟨f, hf, hm⟩ := h
  refine ⟨_, (hf.set (j * 2) _).set (j * 2 + 1) _, fun i hi => ?_⟩
  by_cases h1 : i = j * 2 + 1
  · rw [if_pos h1]; exact congrArg (Value.int .i64) (by omega)
  · rw [if_neg h1]
    by_cases h0 : i = j * 2
    · rw [if_pos h0]; exact congrArg (Value.int .i64) (by omega)
    · rw [if_neg h0]
      exact hm i (by omega)
theorem MK.of_row {n : Nat} {l : List E2} {k : Nat} (h : Row t w g n l k) (k0 : Int) : MK t w g (n * 2) k0 0 := ⟨_, h, fun i hi => absurd hi (by omega)⟩
end
/-! the cells one after the other -/
def flat (l : List E2) : List Value := l.flatMap fun x => [.int .i64 x.a, .int .i64 x.b]
theorem flat_snoc (l : List E2) (x : E2) : flat (l ++ [x]) = flat l ++ [.int .i64 x.a, .int .i64 x.b] := by simp [flat]
theorem flat_app (l m : List E2) : flat (l ++ m) = flat l ++ flat m := by simp [flat]
theorem flat_len (l : List E2) : (flat l).length = l.length * 2 := by
  induction l with
  | nil => rfl
  | cons x r ih =>
    show ([_, _] ++ flat r).length = _
    rw [List.length_append, ih]
    simp only [List.length_cons, List.length_nil]
    omega
theorem flat_at : ∀ (l : List E2) (k : Nat) (x : E2), l[k]? = some x → (flat l)[k * 2]? = some (.int .i64 x.a) ∧ (flat l)[k * 2 + 1]? = some (.int .i64 x.b)
  | [], k, x, h => by simp at h
  | y :: r, 0, x, h => by
    simp at h
    subst h
    exact ⟨rfl, rfl⟩
  | y :: r, k + 1, x, h => by
    have ih := flat_at r k x (by simpa using h)
    have e : ∀ j, (flat (y :: r))[(k + 1) * 2 + j]? = (flat r)[k * 2 + j]? := by
      intro j
      show ([_, _] ++ flat r)[(k + 1) * 2 + j]? = _
      rw [List.getElem?_append_right (by simp; omega)]
      congr 1
      simp
      omega
    refine ⟨?_, ?_⟩
    · have := e 0
      simp only [Nat.add_zero] at this
      rw [this]; exact ih.1
    · rw [e]; exact ih.2
theorem own_vs {t : TypeId} {w : World} {base n : Nat} {v : Value} {l : List E2} (h : w.ownsRow base t 2 v n (flat l)) (hl : l.length = n) :
    ∃ A c, v = .slice A n c ∧ Vs w w.heap.size A n l ∧ ∀ q o, A = some ⟨q, o, none⟩ → base ≤ q := by
  rcases h.2 with ⟨rfl, h0⟩ | ⟨g, cap, cur, rfl, hbg, hgg, _⟩
  · subst h0
    obtain rfl : l = [] := List.eq_nil_of_length_eq_zero hl
    exact ⟨none, 0, rfl, Vs.nil_ _ _ _, fun q o e => by cases e⟩
  · have hlt : g < w.heap.size := by
      rcases Nat.lt_or_ge g w.heap.size with h' | h'
      · exact h'
      · rw [Array.getElem?_eq_none h'] at hgg; cases hgg
    refine ⟨some ⟨g, 0, none⟩, cap, rfl, ⟨hl, fun _ => ⟨g, 0, rfl, hlt, fun k x hx => ?_⟩⟩, fun q o e => by injection e with e; injection e with e1 _ _; omega⟩
    have hc : ∀ (j : Nat) (u : Value), (flat l)[j]? = some u → w.cell? ⟨g, j, none⟩ = some u := by
      intro j u hu
      have := h.cells (g := g) rfl j u hu
      rw [← this]
      congr 1
      unfold Addr.add
      split <;> simp_all
    obtain ⟨h0, h1⟩ := flat_at l k x hx
    have e : ∀ i, (0 : Nat) + k * 2 + i = k * 2 + i := fun i => by omega
    exact ⟨by rw [Nat.zero_add]; exact hc _ _ h0, by rw [e]; exact hc _ _ h1⟩
theorem own_keep {w w' : World} {base n size : Nat} {e : TypeId} {v : Value} {xs : List Value} (h : w.ownsRow base e size v n xs) (hb : Below w.heap.size w w') : w'.ownsRow base e size v n xs :=
  h.kept (row := none) ⟨hb.os, hb.tape, hb.output, hb.size, fun i hi _ => hb.block i hi⟩ (by cases v.ownBlock <;> simp)
theorem cellsN (w : World) (x : E2) (t : TypeId) : ∀ (j : Nat) (u : Value), ([.int .i64 x.a, .int .i64 x.b] : List Value)[j]? = some u →
    (w.alloc (.cells #[.int .i64 x.a, .int .i64 x.b] t)).cell? ((⟨w.heap.size, 0, none⟩ : Addr).add j) = some u := by
  intro j u hu
  have e : ((⟨w.heap.size, 0, none⟩ : Addr).add j) = ⟨w.heap.size, j, none⟩ := by unfold Addr.add; split <;> simp_all
  rw [e, World.cell?_alloc_mark w _ t _ j]
  simpa using hu
theorem oneN (x : E2) : ∀ u ∈ ([.int .i64 x.a, .int .i64 x.b] : List Value), u.oneCell' = true := by
  intro u hu
  simp at hu
  rcases hu with rfl | rfl <;> rfl
end Go.Proofs.YtjnlbhmddhpmaaaGreat.el2
