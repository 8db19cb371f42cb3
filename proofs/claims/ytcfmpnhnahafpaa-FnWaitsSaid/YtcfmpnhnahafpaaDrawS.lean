/- The stores that the model draws: each drawing ends with some store of at most six lists of at most five versions; nothing that was there is written. -/
import Derived.Test.YtcfmpnhnahafpaaDrawn
import Derived.Test.YtcfmpnhnahafpaaSt
import Derived.WalkKit
import Derived.ProofKit
import Derived.Below
import Derived.Lib.Hide
import Derived.LoopTactic
import Derived.Outline
import Derived.IntWalk
import Derived.WalkLawsBesides
import Derived.Deep.RegionHeld3
import Derived.Laws.OwnMore
import Derived.Deep.AppendLies
import Derived.Deep.RegionLaw
namespace Go.Proofs.Ytcfmpnhnahafpaa.draws
open Go.ChangeShapes Go.WideShapes Go.ChangeAt Go.RowKit
open Go.Proofs.Ytcfmpnhnahafpaa.vers Go.Proofs.Ytcfmpnhnahafpaa.sl Go.Proofs.Ytcfmpnhnahafpaa.ch Go.Proofs.Ytcfmpnhnahafpaa.flat Go.Proofs.Ytcfmpnhnahafpaa.cur Go.Proofs.Ytcfmpnhnahafpaa.draw Go.Proofs.Ytcfmpnhnahafpaa.drawn
open Go.Proofs.Ytcfmpnhnahafpaa.st (Rs SlC cnt lt_get one_cell one_free up free_up set_same set_other set_free cnt_take)
set_option linter.unusedVariables false
set_option linter.unusedSimpArgs false
/-- the cell holds a slice of at most five versions, in a block from N up to U that is not g -/
def Cel (w : World) (N U g : Nat) (p : Addr) (l : List Ver) : Prop :=
  w.frozen? p = false ∧ ∃ A m c, w.cell? p = some (.slice A m c) ∧ m ≤ 5 ∧ Vs w U A m l ∧ ∀ q o, A = some ⟨q, o, none⟩ → 0 < m → q ≠ g ∧ N ≤ q
/-- block g holds n such cells -/
def SR (w : World) (N U g n : Nat) (ll : List (List Ver)) : Prop :=
  ll.length = n ∧ g < U ∧ U ≤ w.heap.size ∧ N ≤ g ∧ ∀ k l, ll[k]? = some l → Cel w N U g ⟨g, k, none⟩ l
section
variable {w w' : World} {N N' U U' g b n m : Nat} {ll : List (List Ver)} {l : List Ver} {A : Option Addr}
theorem vs_row {row : Option Nat} (h : Vs w U A m l) (hU : U ≤ w.heap.size) (hne : ∀ q o, A = some ⟨q, o, none⟩ → 0 < m → q < U → some q ≠ row) (hg : w.grownBy w' row) : Vs w' U A m l := by
  refine ⟨h.1, fun hn => ?_⟩
  obtain ⟨q, o, e, hq, hc⟩ := h.2 hn
  have hqb := hne q o e hn hq
  have hh : ∀ i, w'.cell? ⟨q, i, none⟩ = w.cell? ⟨q, i, none⟩ := fun i => World.cell?_of_block (w := w) (hg.block q (by omega) hqb)
  refine ⟨q, o, e, hq, fun k x hx => ?_⟩
  obtain ⟨h0, h1, h2, h3, h4⟩ := hc k x hx
  exact ⟨(hh _).trans h0, (hh _).trans h1, (hh _).trans h2, (hh _).trans h3, (hh _).trans h4⟩
theorem grown_set (w : World) (p : Addr) (u : Value) : w.grownBy (w.setCell p u) (some p.block) := ⟨rfl, rfl, rfl, by simp [World.setCell], fun k _ hk => Below.heap_setCell _ _ _ _ (fun e => hk (by rw [e]))⟩
theorem vs_keep (h : Vs w U A m l) (hne : ∀ q o, A = some ⟨q, o, none⟩ → 0 < m → q < U → w'.heap[q]? = w.heap[q]?) : Vs w' U A m l := by
  refine ⟨h.1, fun hn => ?_⟩
  obtain ⟨q, o, e, hq, hc⟩ := h.2 hn
  have hqb := hne q o e hn hq
  have hh : ∀ i, w'.cell? ⟨q, i, none⟩ = w.cell? ⟨q, i, none⟩ := fun i => World.cell?_of_block (w := w) hqb
  refine ⟨q, o, e, hq, fun k x hx => ?_⟩
  obtain ⟨h0, h1, h2, h3, h4⟩ := hc k x hx
  exact ⟨(hh _).trans h0, (hh _).trans h1, (hh _).trans h2, (hh _).trans h3, (hh _).trans h4⟩
theorem SR.keep (h : SR w N U g n ll) (hs : w.heap.size ≤ w'.heap.size) (hb : ∀ q, N ≤ q → q < U → w'.heap[q]? = w.heap[q]?) : SR w' N U g n ll := by
  obtain ⟨h1, h2, hU, h3, h4⟩ := h
  refine ⟨h1, h2, Nat.le_trans hU hs, h3, fun k l hl => ?_⟩
  obtain ⟨f, A, m, c, hc, hm, hv, hne⟩ := h4 k l hl
  exact ⟨(World.frozen?_of_block (w := w) (a := ⟨g, k, none⟩) (hb g h3 h2)).trans f, A, m, c, (World.cell?_of_block (w := w) (a := ⟨g, k, none⟩) (hb g h3 h2)).trans hc, hm, vs_keep hv (fun q o e hn hq => hb q (hne q o e hn).2 hq), hne⟩
theorem SR.row {row : Option Nat} (h : SR w N U g n ll) (hg : w.grownBy w' row) (hr : ∀ q, N ≤ q → q < U → some q ≠ row) : SR w' N U g n ll :=
  h.keep hg.size (fun q h1 h2 => hg.block q (by have := h.2.2.1; omega) (hr q h1 h2))
theorem SR.only (h : SR w N U g n ll) (hb : b < N) (ho : Only b w w') : SR w' N U g n ll := h.row ho.grownBy (fun q hq _ e => by injection e with e; omega)
theorem SR.kp {B : Nat} (h : SR w N U g n ll) (hb : b < N) (ho : Kp B b w w') : SR w' N U g n ll := h.row ho.gr (fun q hq _ e => by injection e with e; omega)
theorem SR.setOut {p : Addr} (h : SR w N U g n ll) (hp : p.block < N ∨ U ≤ p.block) (u : Value) : SR (w.setCell p u) N U g n ll := h.row (grown_set w p u) (fun q hq hq2 e => by injection e with e; omega)
theorem SR.alloc (h : SR w N U g n ll) (o : Obj) : SR (w.alloc o) N U g n ll := h.row (World.grownBy_alloc w o none) (fun q _ _ e => by cases e)
theorem SR.wide (h : SR w N U g n ll) (hN : N' ≤ N) (hU : U ≤ U') (hU' : U' ≤ w.heap.size) : SR w N' U' g n ll := by
  obtain ⟨h1, h2, _, h3, h4⟩ := h
  refine ⟨h1, by omega, hU', by omega, fun k l hl => ?_⟩
  obtain ⟨f, A, m, c, hc, hm, hv, hne⟩ := h4 k l hl
  exact ⟨f, A, m, c, hc, hm, hv.more hU, fun q o e hn => ⟨(hne q o e hn).1, by have := (hne q o e hn).2; omega⟩⟩
/-- a cell of the row takes another list -/
theorem SR.put (h : SR w N U g n ll) {i c : Nat} (hi : i < n) (hv : Vs w U A m l) (hm : m ≤ 5) (hne : ∀ q o, A = some ⟨q, o, none⟩ → 0 < m → q ≠ g ∧ N ≤ q) :
    SR (w.setCell ⟨g, i, none⟩ (.slice A m c)) N U g n (ll.set i l) := by
  obtain ⟨h1, h2, hU, h3, h4⟩ := h
  have hs : ∀ {A' m' l'}, Vs w U A' m' l' → (∀ q o, A' = some ⟨q, o, none⟩ → 0 < m' → q ≠ g ∧ N ≤ q) → Vs (w.setCell ⟨g, i, none⟩ (.slice A m c)) U A' m' l' := fun hv hne => vs_row hv hU (fun q o e hn _ e2 => (hne q o e hn).1 (by injection e2)) (grown_set w _ _)
  refine ⟨by rw [List.length_set]; exact h1, h2, by simpa [World.setCell] using hU, h3, fun k x hx => ?_⟩
  by_cases e : k = i
  · subst e
    rw [List.getElem?_set_self (by omega)] at hx
    injection hx with hx
    subst hx
    have hlk : k < ll.length := by omega
    obtain ⟨f, A', m', c', hc, _, _, _⟩ := h4 k ll[k] (List.getElem?_eq_getElem hlk)
    exact ⟨set_free f, A, m, c, set_same hc, hm, hs hv hne, hne⟩
  · rw [List.getElem?_set_ne (fun h => e h.symm)] at hx
    obtain ⟨f, A', m', c', hc, hm', hv', hne'⟩ := h4 k x hx
    refine ⟨set_free f, A', m', c', ?_, hm', hs hv' hne', hne'⟩
    rw [World.cell?_setCell_other w ⟨g, i, none⟩ ⟨g, k, none⟩ _ (fun h => e (by injection h with _ h _; exact h.symm))]
    exact hc
theorem SR.rs (h : SR w N U g n ll) : Rs w w.heap.size (some ⟨g, 0, none⟩) n ll := by
  obtain ⟨h1, h2, hU, h3, h4⟩ := h
  refine ⟨h1, fun hn => ⟨g, 0, rfl, by omega, fun k l hl => ?_⟩⟩
  obtain ⟨f, A, m, c, hc, hm, hv, hne⟩ := h4 k l hl
  exact ⟨A, m, c, by rw [Nat.zero_add]; exact hc, by omega, hv.more hU⟩
theorem SR.tail (h : SR w N U g n ll) : Rs w w.heap.size (some ⟨g, 1, none⟩) (n - 1) (ll.drop 1) := by
  obtain ⟨h1, h2, hU, h3, h4⟩ := h
  refine ⟨by rw [List.length_drop, h1], fun _ => ⟨g, 1, rfl, by omega, fun k l hl => ?_⟩⟩
  rw [List.getElem?_drop] at hl
  obtain ⟨f, A, m, c, hc, hm, hv, hne⟩ := h4 (1 + k) l hl
  exact ⟨A, m, c, hc, by omega, hv.more hU⟩
theorem SR.cell (h : SR w N U g n ll) {i : Nat} (hi : i < n) : (∃ u, w.cell? ⟨g, i, none⟩ = some u) ∧ w.frozen? ⟨g, i, none⟩ = false := by
  obtain ⟨h1, h2, hU, h3, h4⟩ := h
  have hlk : i < ll.length := by omega
  obtain ⟨f, A', m', c', hc, _, _, _⟩ := h4 i ll[i] (List.getElem?_eq_getElem hlk)
  exact ⟨⟨_, hc⟩, f⟩
/-- every list is short -/
theorem SR.short (h : SR w N U g n ll) : ∀ l ∈ ll, l.length ≤ 5 := fun l hl => by
  obtain ⟨k, hk, e⟩ := List.getElem_of_mem hl
  obtain ⟨f, A', m', c', hc, hm, hv, _⟩ := h.2.2.2.2 k l (by rw [List.getElem?_eq_getElem hk, e])
  have := hv.1
  omega
end
theorem cnt_short : ∀ {ll : List (List Ver)}, (∀ l ∈ ll, l.length ≤ 5) → cnt ll ≤ 5 * ll.length
  | [], _ => by simp [cnt]
  | x :: r, h => by
    have h1 := h x (by simp)
    have h2 := cnt_short (ll := r) (fun l hl => h l (by simp [hl]))
    unfold cnt at h2 ⊢
    simp only [List.map_cons, List.sum_cons, List.length_cons]
    omega
/-! the row of rows while it grows -/
/-! the walks -/
theorem cell_one (w : World) (v : Value) (t : TypeId) : ∀ (j : Nat) (u : Value), [v][j]? = some u → (w.alloc (.cells #[v] t)).cell? ((⟨w.heap.size, 0, none⟩ : Addr).add j) = some u := by
  intro j u hu
  match j, hu with
  | 0, hu =>
    simp only [List.getElem?_cons_zero, Option.some.injEq] at hu
    rw [← hu]
    exact one_cell w v t
  | j + 1, hu => simp at hu
theorem one_slice (A : Option Addr) (n c : Nat) : ∀ u ∈ [Value.slice A n c], u.oneCell' = true := by
  intro u hu
  simp only [List.mem_singleton] at hu
  rw [hu]; rfl
theorem own_ne {w : World} {B b n size : Nat} {e : TypeId} {v : Value} {xs : List Value} (h : w.ownsRow B e size v n xs) (hb : b < B) : v.ownBlock = none ∨ v.ownBlock ≠ some b := .inr fun e => by have := (h.lt b e).1; omega
theorem kp_cell {B b : Nat} {w v : World} {p : Addr} {x : Value} (h : Kp B b w.drew v) (hc : w.cell? p = some x) (hp : p.block < w.heap.size) (hb : p.block ≠ b) : v.cell? p = some x := (h.cell hp hb).trans hc
theorem kp_free {B b : Nat} {w v : World} {p : Addr} (h : Kp B b w.drew v) (hc : w.frozen? p = false) (hp : p.block < w.heap.size) (hb : p.block ≠ b) : v.frozen? p = false := (h.frozen hp hb).trans hc
/-- a drawn store -/
def DS (B b : Nat) (a : Option Addr) (len cap : Nat) (w : World) (e : Ending) (w' : World) : Prop :=
  ∃ g c ll, e = .returned (.agg #[.slice (some ⟨g, 0, none⟩) 6 c]) ∧ 6 ≤ c ∧ SR w' w.heap.size w'.heap.size g 6 ll ∧ CurAt w' b a len cap ∧ Kp B b w w'
/-- a store that may have been spoiled: at most six lists, of at most five versions each -/
def DT (B b : Nat) (a : Option Addr) (len cap : Nat) (w : World) (e : Ending) (w' : World) : Prop :=
  ∃ A n c ll, e = .returned (.agg #[.slice A n c]) ∧ n ≤ 6 ∧ (∀ l ∈ ll, List.length l ≤ 5) ∧ (∀ W : World, w'.heap.size ≤ W.heap.size → (∀ q, w.heap.size ≤ q → q < w'.heap.size → W.heap[q]? = w'.heap[q]?) → Rs W W.heap.size A n ll) ∧ CurAt w' b a len cap ∧ Kp B b w w'
/-- a drawn store and some number -/
def DSt (w : World) (e : Ending) (w' : World) : Prop := ∃ A n c ll st, e = .returned (.tuple #[.agg #[.slice A n c], .int .i64 st]) ∧ n ≤ 6 ∧ (∀ l ∈ ll, List.length l ≤ 5) ∧ Rs w' w'.heap.size A n ll ∧ Below w.heap.size w w'
end Go.Proofs.Ytcfmpnhnahafpaa.draws
