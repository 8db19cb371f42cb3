/- The stores that the model draws: each drawing ends with some store of at most six lists of at most five versions; nothing that was there is written. -/
import Derived.Test.YtdfhnngcddaccaaDrawn
import Derived.Test.YtdfhnngcddaccaaSt
import Derived.WalkKit
import Derived.ProofKit
import Derived.Below
import Derived.Lib.Hide
import Derived.LoopTactic
import Derived.Outline
import Derived.IntWalk
import Derived.WalkLawsBesides
import Derived.Deep.RegionHeld3
import Derived.Laws.OwnMore
import Derived.Deep.AppendLies
import Derived.Deep.RegionLaw
namespace Go.Proofs.Ytdfhnngcddaccaa.draws
open Go.ChangeShapes Go.WideShapes Go.ChangeAt Go.RowKit
open Go.Proofs.Ytdfhnngcddaccaa.vers Go.Proofs.Ytdfhnngcddaccaa.sl Go.Proofs.Ytdfhnngcddaccaa.ch Go.Proofs.Ytdfhnngcddaccaa.flat Go.Proofs.Ytdfhnngcddaccaa.cur Go.Proofs.Ytdfhnngcddaccaa.draw Go.Proofs.Ytdfhnngcddaccaa.drawn
open Go.Proofs.Ytdfhnngcddaccaa.st (Rs SlC cnt lt_get one_cell one_free up free_up set_same set_other set_free info_row cnt_take)
set_option linter.unusedVariables false
set_option linter.unusedSimpArgs false
/-- the cell holds a slice of at most five versions, in a block from N up to U that is not g -/
def Cel (w : World) (N U g : Nat) (p : Addr) (l : List Ver) : Prop :=
  w.frozen? p = false ∧ ∃ A m c, w.cell? p = some (.slice A m c) ∧ m ≤ 5 ∧ Vs w U A m l ∧ ∀ q o, A = some ⟨q, o, none⟩ → 0 < m → q ≠ g ∧ N ≤ q
/-- block g holds n such cells -/
def SR (w : World) (N U g n : Nat) (ll : List (List Ver)) : Prop :=
  ll.length = n ∧ g < U ∧ U ≤ w.heap.size ∧ N ≤ g ∧ ∀ k l, ll[k]? = some l → Cel w N U g ⟨g, k, none⟩ l
section
variable {w w' : World} {N N' U U' g b n m : Nat} {ll : List (List Ver)} {l : List Ver} {A : Option Addr}
theorem vs_row {row : Option Nat} (h : Vs w U A m l) (hU : U ≤ w.heap.size) (hne : ∀ q o, A = some ⟨q, o, none⟩ → 0 < m → q < U → some q ≠ row) (hg : w.grownBy w' row) : Vs w' U A m l := by
  refine ⟨h.1, fun hn => ?_⟩
  obtain ⟨q, o, e, hq, hc⟩ := h.2 hn
  have hqb := hne q o e hn hq
  have hh : ∀ i, w'.cell? ⟨q, i, none⟩ = w.cell? ⟨q, i, none⟩ := fun i => World.cell?_of_block (w := w) (hg.block q (by omega) hqb)
  refine ⟨q, o, e, hq, fun k x hx => ?_⟩
  obtain ⟨h0, h1, h2, h3, h4⟩ := hc k x hx
  exact ⟨(hh _).trans h0, (hh _).trans h1, (hh _).trans h2, (hh _).trans h3, (hh _).trans h4⟩
theorem grown_set (w : World) (p : Addr) (u : Value) : w.grownBy (w.setCell p u) (some p.block) := ⟨rfl, rfl, rfl, by simp [World.setCell], fun k _ hk => Below.heap_setCell _ _ _ _ (fun e => hk (by rw [e]))⟩
theorem vs_keep (h : Vs w U A m l) (hne : ∀ q o, A = some ⟨q, o, none⟩ → 0 < m → q < U → w'.heap[q]? = w.heap[q]?) : Vs w' U A m l := by
  refine ⟨h.1, fun hn => ?_⟩
  obtain ⟨q, o, e, hq, hc⟩ := h.2 hn
  have hqb := hne q o e hn hq
  have hh : ∀ i, w'.cell? ⟨q, i, none⟩ = w.cell? ⟨q, i, none⟩ := fun i => World.cell?_of_block (w := w) hqb
  refine ⟨q, o, e, hq, fun k x hx => ?_⟩
  obtain ⟨h0, h1, h2, h3, h4⟩ := hc k x hx
  exact ⟨(hh _).trans h0, (hh _).trans h1, (hh _).trans h2, (hh _).trans h3, (hh _).trans h4⟩
theorem SR.keep (h : SR w N U g n ll) (hs : w.heap.size ≤ w'.heap.size) (hb : ∀ q, N ≤ q → q < U → w'.heap[q]? = w.heap[q]?) : SR w' N U g n ll := by
  obtain ⟨h1, h2, hU, h3, h4⟩ := h
  refine ⟨h1, h2, Nat.le_trans hU hs, h3, fun k l hl => ?_⟩
  obtain ⟨f, A, m, c, hc, hm, hv, hne⟩ := h4 k l hl
  exact ⟨(World.frozen?_of_block (w := w) (a := ⟨g, k, none⟩) (hb g h3 h2)).trans f, A, m, c, (World.cell?_of_block (w := w) (a := ⟨g, k, none⟩) (hb g h3 h2)).trans hc, hm, vs_keep hv (fun q o e hn hq => hb q (hne q o e hn).2 hq), hne⟩
theorem SR.row {row : Option Nat} (h : SR w N U g n ll) (hg : w.grownBy w' row) (hr : ∀ q, N ≤ q → q < U → some q ≠ row) : SR w' N U g n ll :=
  h.keep hg.size (fun q h1 h2 => hg.block q (by have := h.2.2.1; omega) (hr q h1 h2))
theorem SR.only (h : SR w N U g n ll) (hb : b < N) (ho : Only b w w') : SR w' N U g n ll := h.row ho.grownBy (fun q hq _ e => by injection e with e; omega)
theorem SR.kp {B : Nat} (h : SR w N U g n ll) (hb : b < N) (ho : Kp B b w w') : SR w' N U g n ll := h.row ho.gr (fun q hq _ e => by injection e with e; omega)
theorem SR.setOut {p : Addr} (h : SR w N U g n ll) (hp : p.block < N ∨ U ≤ p.block) (u : Value) : SR (w.setCell p u) N U g n ll := h.row (grown_set w p u) (fun q hq hq2 e => by injection e with e; omega)
theorem SR.alloc (h : SR w N U g n ll) (o : Obj) : SR (w.alloc o) N U g n ll := h.row (World.grownBy_alloc w o none) (fun q _ _ e => by cases e)
theorem SR.wide (h : SR w N U g n ll) (hN : N' ≤ N) (hU : U ≤ U') (hU' : U' ≤ w.heap.size) : SR w N' U' g n ll := by
  obtain ⟨h1, h2, _, h3, h4⟩ := h
  refine ⟨h1, by omega, hU', by omega, fun k l hl => ?_⟩
  obtain ⟨f, A, m, c, hc, hm, hv, hne⟩ := h4 k l hl
  exact ⟨f, A, m, c, hc, hm, hv.more hU, fun q o e hn => ⟨(hne q o e hn).1, by have := (hne q o e hn).2; omega⟩⟩
/-- a cell of the row takes another list -/
theorem SR.put (h : SR w N U g n ll) {i c : Nat} (hi : i < n) (hv : Vs w U A m l) (hm : m ≤ 5) (hne : ∀ q o, A = some ⟨q, o, none⟩ → 0 < m → q ≠ g ∧ N ≤ q) :
    SR (w.setCell ⟨g, i, none⟩ (.slice A m c)) N U g n (ll.set i l) := by
  obtain ⟨h1, h2, hU, h3, h4⟩ := h
  have hs : ∀ {A' m' l'}, Vs w U A' m' l' → (∀ q o, A' = some ⟨q, o, none⟩ → 0 < m' → q ≠ g ∧ N ≤ q) → Vs (w.setCell ⟨g, i, none⟩ (.slice A m c)) U A' m' l' := fun hv hne => vs_row hv hU (fun q o e hn _ e2 => (hne q o e hn).1 (by injection e2)) (grown_set w _ _)
  refine ⟨by rw [List.length_set]; exact h1, h2, by simpa [World.setCell] using hU, h3, fun k x hx => ?_⟩
  by_cases e : k = i
  · subst e
    rw [List.getElem?_set_self (by omega)] at hx
    injection hx with hx
    subst hx
    have hlk : k < ll.length := by omega
    obtain ⟨f, A', m', c', hc, _, _, _⟩ := h4 k ll[k] (List.getElem?_eq_getElem hlk)
    exact ⟨set_free f, A, m, c, set_same hc, hm, hs hv hne, hne⟩
  · rw [List.getElem?_set_ne (fun h => e h.symm)] at hx
    obtain ⟨f, A', m', c', hc, hm', hv', hne'⟩ := h4 k x hx
    refine ⟨set_free f, A', m', c', ?_, hm', hs hv' hne', hne'⟩
    rw [World.cell?_setCell_other w ⟨g, i, none⟩ ⟨g, k, none⟩ _ (fun h => e (by injection h with _ h _; exact h.symm))]
    exact hc
theorem SR.rs (h : SR w N U g n ll) : Rs w w.heap.size (some ⟨g, 0, none⟩) n ll := by
  obtain ⟨h1, h2, hU, h3, h4⟩ := h
  refine ⟨h1, fun hn => ⟨g, 0, rfl, by omega, fun k l hl => ?_⟩⟩
  obtain ⟨f, A, m, c, hc, hm, hv, hne⟩ := h4 k l hl
  exact ⟨A, m, c, by rw [Nat.zero_add]; exact hc, by omega, hv.more hU⟩
theorem SR.tail (h : SR w N U g n ll) : Rs w w.heap.size (some ⟨g, 1, none⟩) (n - 1) (ll.drop 1) := by
  obtain ⟨h1, h2, hU, h3, h4⟩ := h
  refine ⟨by rw [List.length_drop, h1], fun _ => ⟨g, 1, rfl, by omega, fun k l hl => ?_⟩⟩
  rw [List.getElem?_drop] at hl
  obtain ⟨f, A, m, c, hc, hm, hv, hne⟩ := h4 (1 + k) l hl
  exact ⟨A, m, c, hc, by omega, hv.more hU⟩
theorem SR.cell (h : SR w N U g n ll) {i : Nat} (hi : i < n) : (∃ u, w.cell? ⟨g, i, none⟩ = some u) ∧ w.frozen? ⟨g, i, none⟩ = false := by
  obtain ⟨h1, h2, hU, h3, h4⟩ := h
  have hlk : i < ll.length := by omega
  obtain ⟨f, A', m', c', hc, _, _, _⟩ := h4 i ll[i] (List.getElem?_eq_getElem hlk)
  exact ⟨⟨_, hc⟩, f⟩
/-- every list is short -/
theorem SR.short (h : SR w N U g n ll) : ∀ l ∈ ll, l.length ≤ 5 := fun l hl => by
  obtain ⟨k, hk, e⟩ := List.getElem_of_mem hl
  obtain ⟨f, A', m', c', hc, hm, hv, _⟩ := h.2.2.2.2 k l (by rw [List.getElem?_eq_getElem hk, e])
  have := hv.1
  omega
end
theorem cnt_short : ∀ {ll : List (List Ver)}, (∀ l ∈ ll, l.length ≤ 5) → cnt ll ≤ 5 * ll.length
  | [], _ => by simp [cnt]
  | x :: r, h => by
    have h1 := h x (by simp)
    have h2 := cnt_short (ll := r) (fun l hl => h l (by simp [hl]))
    unfold cnt at h2 ⊢
    simp only [List.map_cons, List.sum_cons, List.length_cons]
    omega
/-! the row of rows while it grows -/
theorem r5_base {w : World} {B B' m : Nat} {v : Value} (h : R5 w B v m) (hB : B' ≤ B) : R5 w B' v m := by
  obtain ⟨l, hl, h1, h2⟩ := h
  refine ⟨l, hl, h1, ?_⟩
  rcases h2 with h2 | ⟨g, cap, cur, h3, h4, h5⟩
  · exact .inl h2
  · exact .inr ⟨g, cap, cur, h3, by omega, h5⟩
/-- the rows that the list of slices names -/
def Inn (B : Nat) (w : World) (vals : List Value) : Prop := ∀ u ∈ vals, ∃ m, m ≤ 5 ∧ 0 < m ∧ R5 w B u m
theorem r5_block {w : World} {B m : Nat} {v : Value} (h : R5 w B v m) (hm : 0 < m) : ∃ q cap cur, v = .slice (some ⟨q, 0, none⟩) m cap ∧ B ≤ q ∧ w.heap[q]? = some (.cells cur 34 (0, 0)) := by
  obtain ⟨l, hl, h1, h2⟩ := h
  rcases h2 with ⟨_, h2⟩ | ⟨g, cap, cur, h3, h4, h5, _⟩
  · omega
  · exact ⟨g, cap, cur, h3, h4, h5⟩
theorem not_own {w : World} {B B2 n m : Nat} {v u : Value} {xs : List Value} (h : w.ownsRow B 45 1 v n xs) (hR : R5 w B2 u m) (hm : 0 < m) : u.ownBlock = none ∨ u.ownBlock ≠ v.ownBlock := by
  obtain ⟨q, cap, cur, rfl, _, hq⟩ := r5_block hR hm
  refine .inr fun e => ?_
  rcases h.2 with ⟨rfl, _⟩ | ⟨g, cap', cur', rfl, _, hgg, _⟩
  · simp [Value.ownBlock] at e
  · simp only [Value.ownBlock, Option.some.injEq] at e
    subst e
    rw [hq] at hgg
    simp at hgg
theorem Inn.grown {B n : Nat} {w w' : World} {vals : List Value} {v : Value} {xs : List Value} (h : Inn B w vals) (ho : w.ownsRow B 45 1 v n xs) (hg : w.grownBy w' v.ownBlock) : Inn B w' vals := fun u hu => by
  obtain ⟨m, h1, h2, h3⟩ := h u hu
  exact ⟨m, h1, h2, h3.grown hg (not_own ho h3 h2)⟩
theorem Inn.row {B b : Nat} {w w' : World} {vals : List Value} (h : Inn B w vals) (hg : w.grownBy w' (some b)) (hb : b < B) : Inn B w' vals := fun u hu => by
  obtain ⟨m, h1, h2, h3⟩ := h u hu
  obtain ⟨q, cap, cur, rfl, hq, _⟩ := r5_block h3 h2
  exact ⟨m, h1, h2, h3.grown hg (.inr (by simp [Value.ownBlock]; omega))⟩
theorem Inn.none_ {B : Nat} {w w' : World} {vals : List Value} (h : Inn B w vals) (hg : w.grownBy w' none) : Inn B w' vals := fun u hu => by
  obtain ⟨m, h1, h2, h3⟩ := h u hu
  exact ⟨m, h1, h2, h3.grown hg (by cases u.ownBlock <;> simp)⟩
theorem own_sr {w : World} {B n : Nat} {v : Value} {vals : List Value} (ho : w.ownsRow B 45 1 v n vals) (hn : 0 < n) (hi : Inn B w vals) :
    ∃ g c ll, v = .slice (some ⟨g, 0, none⟩) n c ∧ n ≤ c ∧ SR w B w.heap.size g n ll := by
  have hlen : vals.length = n := by have := ho.1; omega
  rcases ho.2 with ⟨_, h0⟩ | ⟨g, cap, cur, rfl, hBg, hgg, hnc, _, hsz, _⟩
  · omega
  have hgw : g < w.heap.size := by
    rcases Nat.lt_or_ge g w.heap.size with h' | h'
    · exact h'
    · rw [Array.getElem?_eq_none h'] at hgg; cases hgg
  have hpick : ∀ u ∈ vals, ∃ l : List Ver, ∃ A m c, u = .slice A m c ∧ m ≤ 5 ∧ Vs w w.heap.size A m l ∧ ∀ q o, A = some ⟨q, o, none⟩ → 0 < m → q ≠ g ∧ B ≤ q := by
    intro u hu
    obtain ⟨m, h1, h2, h3⟩ := hi u hu
    obtain ⟨q, cap', cur', rfl, hq, hqq⟩ := r5_block h3 h2
    obtain ⟨A, c, l, e, hv⟩ := h3.vs
    injection e with e1 e2 e3
    subst e1
    refine ⟨l, _, m, c, by rw [e3], h1, hv, fun q' o e _ => ?_⟩
    injection e with e
    injection e with e1 _ _
    subst e1
    refine ⟨fun e => ?_, by omega⟩
    subst e
    rw [hqq] at hgg
    simp at hgg
  refine ⟨g, cap, vals.pmap (fun u hu => Classical.choose (hpick u hu)) (fun u hu => hu), rfl, hnc, by simpa using hlen, hgw, Nat.le_refl _, hBg, fun k l hl => ?_⟩
  have hk : k < vals.length := by have := lt_get hl; simpa using this
  have hg : vals[k]? = some vals[k] := List.getElem?_eq_getElem hk
  have hm : vals[k] ∈ vals := List.getElem_mem hk
  have hl2 : l = Classical.choose (hpick vals[k] hm) := by
    rw [List.getElem?_pmap] at hl
    simp only [hg, Option.pmap_some, Option.some.injEq] at hl
    exact hl.symm
  obtain ⟨A, m, c, hu, hm5, hv, hne⟩ := Classical.choose_spec (hpick vals[k] hm)
  rw [← hl2] at hv
  refine ⟨World.ownsRow.frozenAt ho k, A, m, c, ?_, hm5, hv, hne⟩
  rw [World.ownsRow.cellAt ho k (by omega), hg, hu]
/-! the walks -/
theorem cell_one (w : World) (v : Value) (t : TypeId) : ∀ (j : Nat) (u : Value), [v][j]? = some u → (w.alloc (.cells #[v] t)).cell? ((⟨w.heap.size, 0, none⟩ : Addr).add j) = some u := by
  intro j u hu
  match j, hu with
  | 0, hu =>
    simp only [List.getElem?_cons_zero, Option.some.injEq] at hu
    rw [← hu]
    exact one_cell w v t
  | j + 1, hu => simp at hu
theorem one_slice (A : Option Addr) (n c : Nat) : ∀ u ∈ [Value.slice A n c], u.oneCell' = true := by
  intro u hu
  simp only [List.mem_singleton] at hu
  rw [hu]; rfl
theorem own_ne {w : World} {B b n size : Nat} {e : TypeId} {v : Value} {xs : List Value} (h : w.ownsRow B e size v n xs) (hb : b < B) : v.ownBlock = none ∨ v.ownBlock ≠ some b := .inr fun e => by have := (h.lt b e).1; omega
theorem kp_cell {B b : Nat} {w v : World} {p : Addr} {x : Value} (h : Kp B b w.drew v) (hc : w.cell? p = some x) (hp : p.block < w.heap.size) (hb : p.block ≠ b) : v.cell? p = some x := (h.cell hp hb).trans hc
theorem kp_free {B b : Nat} {w v : World} {p : Addr} (h : Kp B b w.drew v) (hc : w.frozen? p = false) (hp : p.block < w.heap.size) (hb : p.block ≠ b) : v.frozen? p = false := (h.frozen hp hb).trans hc
/-- a drawn store -/
def DS (B b : Nat) (a : Option Addr) (len cap : Nat) (w : World) (e : Ending) (w' : World) : Prop :=
  ∃ g c ll, e = .returned (.agg #[.slice (some ⟨g, 0, none⟩) 6 c]) ∧ 6 ≤ c ∧ SR w' w.heap.size w'.heap.size g 6 ll ∧ CurAt w' b a len cap ∧ Kp B b w w'
set_option maxRecDepth 100000 in
set_option maxHeartbeats 3200000 in
theorem draw_store (b B : Nat) (a : Option Addr) (len cap : Nat) (w : World) (hl : len ≤ 1048576) (hc : CurAt w b a len cap) (hcode : CodeAt w B a len) (hB : B ≤ b) :
    Calls Try.prog 82 #[.pointer (some ⟨b, 0, none⟩)] w (DS B b a len cap w) := by
  have hbw := hc.lt
  have HD := Lib.hid (fun W (hW : CurAt W b a len cap) (hO : Kp B b w W) => draw_chain b B a len cap W hl hW (hcode.below (Nat.le_refl _) hO.bel) hB)
  obtain ⟨i0, hi, hz0, hz1, hz2⟩ := info_parts info_row
  have HI := Lib.hid hi
  have HZ0 := Lib.hid hz0
  have HZ1 := Lib.hid hz1
  have HZ2 := Lib.hid hz2
  have HC := Lib.hid hc
  clear hi hz0 hz1 hz2 hc hcode
  go_enter Try.func82, Try.ntmps82
  go_wp2_with fail
  have z0 := up (.cells #[.slice none 0 0] 26) (one_cell w (.slice none 0 0) 26) (by simp)
  have z1 := one_cell (w.alloc (.cells #[.slice none 0 0] 26)) (.slice none 0 0) 26
  have f0 := free_up (.cells #[.slice none 0 0] 26) (one_free w (.slice none 0 0) 26) (by simp)
  have f1 := one_free (w.alloc (.cells #[.slice none 0 0] 26)) (.slice none 0 0) 26
  have k0 := ((Kp.refl B b w).alloc (by omega) (.cells #[.slice none 0 0] 26)).alloc (by omega) (.cells #[.slice none 0 0] 26)
  have c0 := (HC.out.alloc (.cells #[.slice none 0 0] 26)).alloc (.cells #[.slice none 0 0] 26)
  have hs0 : ((w.alloc (.cells #[.slice none 0 0] 26)).alloc (.cells #[.slice none 0 0] 26)).heap.size = w.heap.size + 2 := by simp
  simp only [World.size_alloc] at z1 f1
  generalize (w.alloc _).alloc _ = w0 at z0 z1 f0 f1 k0 c0 hs0 ⊢
  have K0 := Lib.hid k0
  have C0 := Lib.hid c0
  clear k0 c0
  go_loopw [4] (fun i wr => ∃ (k : Nat) (v : Value) (vals : List Value), k ≤ 6 ∧ i = .int .i64 k ∧ wr.ownsRow (w.heap.size + 2) 45 1 v k vals ∧ Inn (w.heap.size + 2) wr vals ∧ wr.cell? ⟨w.heap.size, 0, none⟩ = some (.slice none 0 0) ∧ wr.cell? ⟨w.heap.size + 1, 0, none⟩ = some v ∧ wr.frozen? ⟨w.heap.size, 0, none⟩ = false ∧ wr.frozen? ⟨w.heap.size + 1, 0, none⟩ = false ∧ CurAt wr b a len cap ∧ Kp B b w wr ∧ w.heap.size + 2 ≤ wr.heap.size) (fun i _ => 6 - (intOf i).toNat)
  case atStart => exact ⟨0, _, [], by omega, rfl, ⟨rfl, .inl ⟨rfl, rfl⟩⟩, fun u hu => by simp at hu, z0, z1, f0, f1, C0.out, K0.out, by omega⟩
  case round =>
    obtain ⟨k, v, vals, hk, rfl, hown, hrows, c0, c1, fz0, fz1, hcr, hkr, hs⟩ := hrel
    have HOWN := Lib.hid hown
    have HROWS := Lib.hid hrows
    have HCR := Lib.hid hcr
    have HKR := Lib.hid hkr
    clear z0 z1 f0 f1 hown hrows hcr hkr
    by_cases hlt : k < 6
    · have t : decide ((k : Int) < 6) = true := decide_eq_true (by omega)
      have C0 := Lib.hid c0
      have G0 := Lib.hid fz0
      have hmax : k + 1 ≤ maxLen := by unfold maxLen; omega
      have hbyt : (k + 1) * 24 ≤ 140737488355328 := by omega
      clear c0 fz0
      go_wp2_with fail
      go_region_law (first | (go_simp; go_at_call 94; refine (HD.out wr.drew HCR.out HKR.out.drew).mono ?_; rintro e W1 ⟨v1, m1, rfl, hm1, hm5, hr1, hc1, hk1⟩; obtain ⟨g1, cp1, rfl, hg1, hgw1, hmc1, _⟩ := hr1.form hm1; have hv1 := kp_cell hk1 c1 (show w.heap.size + 1 < wr.heap.size by omega) (show w.heap.size + 1 ≠ b by omega); have hf1 := kp_free hk1 fz1 (show w.heap.size + 1 < wr.heap.size by omega) (show w.heap.size + 1 ≠ b by omega); have hown3 := (HOWN.out.drew).kept hk1.gr (own_ne HOWN.out (by omega)); have hsz1 : w.heap.size + 2 ≤ W1.heap.size := Nat.le_trans hs hk1.size; have hlt1 : w.heap.size + 1 < W1.heap.size := (by omega); have hne1 : some (w.heap.size + 1) ≠ v.ownBlock := (fun e => by have := (hown3.lt _ e.symm).1; omega)) | (refine step_append_lies _ (by rfl) _ _ _ (by rfl) (w.heap.size + 2) 45 i0 (.slice none 0 0) 1 24 Try.underlying24 HI.out HZ0.out HZ1.out HZ2.out rfl (by decide) _ k _ (by rfl) (hown3.alloc _) ⟨W1.heap.size, 0, none⟩ 1 1 [.slice (some ⟨g1, 0, none⟩) m1 cp1] (by rfl) (by rfl) (cell_one _ _ _) (one_slice _ _ _) (by decide) hmax hbyt (Nat.le_trans hsz1 (by simp)) (W1.heap.size + 1) (by simp) ?_; intro gg cp w1 hown4 hgrow hat hlt4; have d1 := hgrow.cell (up (.cells #[.slice (some ⟨g1, 0, none⟩) m1 cp1] 45) hv1 hlt1) hne1; have e1 := (hgrow.frozen_far ⟨w.heap.size + 1, 0, none⟩ (by simp; omega) hne1).trans (free_up (.cells #[.slice (some ⟨g1, 0, none⟩) m1 cp1] 45) hf1 hlt1)))
      all_goals
        have hne0 : some w.heap.size ≠ v.ownBlock := fun e => by have := (hown3.lt _ e.symm).1; omega
        have hlt0 : w.heap.size < W1.heap.size := by omega
        have d0 := hgrow.cell (up (.cells #[.slice (some ⟨g1, 0, none⟩) m1 cp1] 45) (kp_cell hk1 C0.out (show w.heap.size < wr.heap.size by omega) (show w.heap.size ≠ b by omega)) hlt0) hne0
        have e0 := (hgrow.frozen_far ⟨w.heap.size, 0, none⟩ (by simp; omega) hne0).trans (free_up (.cells #[.slice (some ⟨g1, 0, none⟩) m1 cp1] 45) (kp_free hk1 G0.out (show w.heap.size < wr.heap.size by omega) (show w.heap.size ≠ b by omega)) hlt0)
        have hk4 : Kp B b w w1 := ((HKR.out.drew.trans hk1).alloc (by omega) _).grown hgrow (by omega) (fun q hq => by have := (hown3.lt q hq).1; omega)
        have c4 : CurAt w1 b a len cap := (hc1.alloc _).grown hgrow (fun e => by have := (hown3.lt b e.symm).1; omega)
        have r4 : Inn (w.heap.size + 2) w1 (vals ++ [.slice (some ⟨g1, 0, none⟩) m1 cp1]) := by
          intro u hu
          rcases List.mem_append.1 hu with hu | hu
          · exact ((((show Inn (w.heap.size + 2) wr.drew vals from HROWS.out).row hk1.gr (by omega)).none_ (World.grownBy_alloc W1 _ none)).grown (hown3.alloc _) hgrow) u hu
          · simp only [List.mem_singleton] at hu
            subst hu
            have h5 := (r5_base (B' := w.heap.size + 2) hr1 hs).alloc (.cells #[.slice (some ⟨g1, 0, none⟩) m1 cp1] 45)
            exact ⟨m1, hm5, hm1, h5.grown hgrow (not_own (hown3.alloc _) h5 hm1)⟩
        have HK4 := Lib.hid hk4
        have HC4 := Lib.hid c4
        have HR4 := Lib.hid r4
        have HO4 := Lib.hid hown4
        have hs4 := hk4.size
        have hw4 : w.heap.size + 2 ≤ w1.heap.size := Nat.le_trans (Nat.le_trans hsz1 (by simp)) hgrow.size
        have D0 := Lib.hid d0
        have D1 := Lib.hid d1
        have E0 := Lib.hid e0
        have E1 := Lib.hid e1
        clear hk4 c4 r4 hown4 hgrow hat hown3 hv1 hf1 hr1 hc1 hk1 d0 d1 e0 e1
        go_wp2_with fail
        go_roundw
        case rel => exact ⟨k + 1, _, _, by omega, by go_num, ownsRow_setCell_below HO4.out (by simp) _, HR4.out.row (grown_set _ _ _) (by simp), set_other D0.out (by simp), set_same D1.out, set_free E0.out, set_free E1.out, cur_set (i := 0) HC4.out (g := w.heap.size + 1) (by omega) _, HK4.out.setCell (by omega) (by simp) _, by simp [World.setCell]; omega⟩
        case measure => simp [intOf]; omega
    · have t : decide ((k : Int) < 6) = false := decide_eq_false (by omega)
      obtain rfl : k = 6 := by omega
      obtain ⟨g, c, ll, rfl, h6, hsr⟩ := own_sr HOWN.out (by omega) HROWS.out
      have HSR := Lib.hid hsr
      clear hsr
      go_wp2_with fail
      have e1 := set_same (v := .slice (some ⟨g, 0, none⟩) 6 c) c0
      have kf := HKR.out.setCell (by omega) (p := ⟨w.heap.size, 0, none⟩) (by simp) (.slice (some ⟨g, 0, none⟩) 6 c)
      have cf := cur_set (i := 0) HCR.out (g := w.heap.size) (by omega) (.slice (some ⟨g, 0, none⟩) 6 c)
      have rf := (HSR.out.setOut (p := ⟨w.heap.size, 0, none⟩) (.inl (show w.heap.size < w.heap.size + 2 by omega)) (.slice (some ⟨g, 0, none⟩) 6 c)).wide (show w.heap.size ≤ w.heap.size + 2 by omega) (show wr.heap.size ≤ (wr.setCell ⟨w.heap.size, 0, none⟩ (.slice (some ⟨g, 0, none⟩) 6 c)).heap.size by simp [World.setCell]) (Nat.le_refl _)
      generalize (wr.setCell _ _) = Wf at e1 kf cf rf ⊢
      exact bodyPost_ret (v := .agg #[.slice (some ⟨g, 0, none⟩) 6 c]) (by simp [results, Try.results82, go_sem, e1]) rfl ⟨g, c, ll, rfl, h6, rf, cf, kf⟩
/-- a store that may have been spoiled: at most six lists, of at most five versions each -/
def DT (B b : Nat) (a : Option Addr) (len cap : Nat) (w : World) (e : Ending) (w' : World) : Prop :=
  ∃ A n c ll, e = .returned (.agg #[.slice A n c]) ∧ n ≤ 6 ∧ (∀ l ∈ ll, List.length l ≤ 5) ∧ (∀ W : World, w'.heap.size ≤ W.heap.size → (∀ q, w.heap.size ≤ q → q < w'.heap.size → W.heap[q]? = w'.heap[q]?) → Rs W W.heap.size A n ll) ∧ CurAt w' b a len cap ∧ Kp B b w w'
set_option maxRecDepth 100000 in
set_option maxHeartbeats 3200000 in
theorem draw_spoiled (b B : Nat) (a : Option Addr) (len cap : Nat) (w : World) (hl : len ≤ 1048576) (hc : CurAt w b a len cap) (hcode : CodeAt w B a len) (hB : B ≤ b) :
    Calls Try.prog 61 #[.pointer (some ⟨b, 0, none⟩)] w (DT B b a len cap w) := by
  have hbw := hc.lt
  have HK := Lib.hid (fun (n : Int) (hn : 0 < n) W (hW : CurAt W b a len cap) (hO : Kp B b w W) => below_calls b B a len cap n W hl hW (hcode.below (Nat.le_refl _) hO.bel) hB hn)
  have HA := Lib.hid (fun W (hW : CurAt W b a len cap) (hO : Kp B b w W) => draw_any b B a len cap W hl hW (hcode.below (Nat.le_refl _) hO.bel) hB)
  have HS := Lib.hid (fun W (hW : CurAt W b a len cap) (hO : Kp B b w W) => draw_store b B a len cap W hl hW (hcode.below (Nat.le_refl _) hO.bel) hB)
  have HC := Lib.hid hc
  clear hc hcode
  go_enter Try.func61, Try.ntmps61
  go_wp2_with fail
  have k0 := (Kp.refl B b w).alloc (by omega) (.cells #[.slice none 0 0] 26)
  have c0 := HC.out.alloc (.cells #[.slice none 0 0] 26)
  have x0 := one_cell w (.slice none 0 0) 26
  have y0 := one_free w (.slice none 0 0) 26
  have hs0 : (w.alloc (.cells #[.slice none 0 0] 26)).heap.size = w.heap.size + 1 := by simp
  generalize w.alloc (.cells #[.slice none 0 0] 26) = w0 at k0 c0 x0 y0 hs0 ⊢
  refine (HS.out w0 c0 k0).mono ?_
  rintro e W1 ⟨g, c, ll, rfl, h6, hsr, hc1, hk1⟩
  have hs1 := hk1.size
  have hX := (hk1.cell (p := ⟨w.heap.size, 0, none⟩) (show w.heap.size < w0.heap.size by omega) (show w.heap.size ≠ b by omega)).trans x0
  have hY := (hk1.frozen (p := ⟨w.heap.size, 0, none⟩) (show w.heap.size < w0.heap.size by omega) (show w.heap.size ≠ b by omega)).trans y0
  have k1 := k0.trans hk1
  have HSR1 := Lib.hid hsr
  have BX := Lib.hid (one_cell W1 (.slice (some ⟨g, 0, none⟩) 6 c) 26)
  have BF := Lib.hid (one_free W1 (.slice (some ⟨g, 0, none⟩) 6 c) 26)
  have R2 := Lib.hid (hsr.alloc (.cells #[.slice (some ⟨g, 0, none⟩) 6 c] 26))
  have C2 := Lib.hid (hc1.alloc (.cells #[.slice (some ⟨g, 0, none⟩) 6 c] 26))
  have K2 := Lib.hid (k1.alloc (by omega) (.cells #[.slice (some ⟨g, 0, none⟩) 6 c] 26))
  have X2 := Lib.hid (up (.cells #[.slice (some ⟨g, 0, none⟩) 6 c] 26) hX (show w.heap.size < W1.heap.size by omega))
  have Y2 := Lib.hid (free_up (.cells #[.slice (some ⟨g, 0, none⟩) 6 c] 26) hY (show w.heap.size < W1.heap.size by omega))
  have hs2 : (W1.alloc (.cells #[.slice (some ⟨g, 0, none⟩) 6 c] 26)).heap.size = W1.heap.size + 1 := by simp
  have hgM : g < W1.heap.size := hsr.2.1
  have hNg : w.heap.size + 1 ≤ g := by have := hsr.2.2.2.1; omega
  clear hsr hc1 hk1 hX hY k1 k0 c0 x0 y0
  go_wp2_with fail
  obtain ⟨M, hM⟩ : ∃ M, M = W1.heap.size := ⟨_, rfl⟩
  simp only [← hM] at BX BF R2 hs2 hs1 hgM ⊢
  generalize W1.alloc (.cells #[.slice (some ⟨g, 0, none⟩) 6 c] 26) = W2 at BX BF R2 C2 K2 X2 Y2 hs2 ⊢
  clear hM
  refine (HK.out 12 (by decide) W2 C2.out K2.out).mono ?_
  rintro e W3 ⟨x, rfl, hx0, hx1, hc3, ho3⟩
  have hs3 := ho3.size
  have R3 := Lib.hid (R2.out.only (show b < w0.heap.size by omega) ho3)
  have C3 := Lib.hid hc3
  have K3 := Lib.hid (K2.out.only ho3 hB)
  have bx3 := (World.cell?_of_block (w := W2) (a := ⟨M, 0, none⟩) (ho3.block M (by omega))).trans BX.out
  have bf3 := (World.frozen?_of_block (w := W2) (a := ⟨M, 0, none⟩) (ho3.block M (by omega))).trans BF.out
  have x3 := (World.cell?_of_block (w := W2) (a := ⟨w.heap.size, 0, none⟩) (ho3.block w.heap.size (by omega))).trans X2.out
  have y3 := (World.frozen?_of_block (w := W2) (a := ⟨w.heap.size, 0, none⟩) (ho3.block w.heap.size (by omega))).trans Y2.out
  clear hc3 ho3 BX BF R2 C2 K2 X2 Y2
  by_cases e0 : x = 0
  case pos =>
    subst e0
    clear hx0 hx1
    go_wp2_with fail
    go_region_law (first | (go_simp; go_at_call 34; refine (HK.out 6 (by decide) W3.drew C3.out K3.out.drew).mono ?_; rintro e W4 ⟨x, rfl, hx0, hx1, hc4, ho4⟩; obtain ⟨i, rfl⟩ := Int.eq_ofNat_of_zero_le hx0; have bx4 := (World.cell?_of_block (w := W3.drew) (w' := W4) (a := ⟨M, 0, none⟩) (ho4.block M (by omega))).trans bx3; have r4 := SR.only (w := W3.drew) R3.out (show b < w0.heap.size by omega) ho4; have k4 := K3.out.drew.only ho4 hB; have hi4 : (i : Int) < 6 := hx1; have hj4 : i < 6 := (by omega)) | (go_simp; go_at_call 83; refine (HA.out W4 hc4 k4).mono ?_; rintro e W5 ⟨A5, n5, c5, l5, rfl, hn5, hv5, hne5, hc5, hk5⟩; have bx5 := (hk5.cell (p := ⟨M, 0, none⟩) (show M < W4.heap.size by rw [ho4.size]; show M < W3.heap.size; omega) (show M ≠ b by omega)).trans bx4; have r5 := r4.kp (show b < w0.heap.size by omega) hk5; obtain ⟨⟨u5, cu5⟩, fu5⟩ := r5.cell hj4))
    all_goals
      have hs4 : W4.heap.size = M + 1 := by rw [ho4.size]; show W3.heap.size = M + 1; omega
      have hs5 := hk5.size
      have x4 := (World.cell?_of_block (w := W3.drew) (w' := W4) (a := ⟨w.heap.size, 0, none⟩) (ho4.block w.heap.size (by omega))).trans x3
      have y4 := (World.frozen?_of_block (w := W3.drew) (w' := W4) (a := ⟨w.heap.size, 0, none⟩) (ho4.block w.heap.size (by omega))).trans y3
      have x5 := (hk5.cell (p := ⟨w.heap.size, 0, none⟩) (show w.heap.size < W4.heap.size by omega) (show w.heap.size ≠ b by omega)).trans x4
      have y5 := (hk5.frozen (p := ⟨w.heap.size, 0, none⟩) (show w.heap.size < W4.heap.size by omega) (show w.heap.size ≠ b by omega)).trans y4
      have r6 := (r5.wide (Nat.le_refl _) (show M ≤ W5.heap.size by omega) (Nat.le_refl _)).put (c := c5) hj4 hv5 hn5 (fun q o e hn => by have := (hne5 q o e hn).2; exact ⟨by omega, by omega⟩)
      have bx6 := set_other (a := ⟨g, i, none⟩) (v := .slice A5 n5 c5) bx5 (show g ≠ M by omega)
      have x6 := set_other (a := ⟨g, i, none⟩) (v := .slice A5 n5 c5) x5 (show g ≠ w.heap.size by omega)
      have y6 := set_free (a := ⟨g, i, none⟩) (v := .slice A5 n5 c5) y5
      have k6 := (k4.trans hk5).setCell (by omega) (p := ⟨g, i, none⟩) (show w.heap.size ≤ g by omega) (.slice A5 n5 c5)
      have c6 := cur_set (i := i) hc5 (g := g) (by omega) (.slice A5 n5 c5)
      have hs6 : (W5.setCell ⟨g, i, none⟩ (.slice A5 n5 c5)).heap.size = W5.heap.size := by simp [World.setCell]
      generalize W5.setCell ⟨g, i, none⟩ (.slice A5 n5 c5) = W6 at r6 bx6 x6 y6 k6 c6 hs6 ⊢
      have K6 := Lib.hid k6
      have C6 := Lib.hid c6
      have R6 := Lib.hid r6
      clear bx5 x5 y5 bx4 x4 y4 r5 r4 k4 hc4 hc5 hk5 ho4 hne5 hv5 r6 k6 c6 hx0 hx1 fu5 cu5 x3 y3 bx3 bf3
      go_wp2_with fail
      have xf := set_same (v := .slice (some ⟨g, 0, none⟩) 6 c) x6
      have kf := K6.out.setCell (by omega) (p := ⟨w.heap.size, 0, none⟩) (by simp) (.slice (some ⟨g, 0, none⟩) 6 c)
      have cf := cur_set (i := 0) C6.out (g := w.heap.size) (by omega) (.slice (some ⟨g, 0, none⟩) 6 c)
      have rf := R6.out.setOut (p := ⟨w.heap.size, 0, none⟩) (.inl (show w.heap.size < w0.heap.size by omega)) (.slice (some ⟨g, 0, none⟩) 6 c)
      generalize (W6.setCell _ _) = Wf at xf kf cf rf ⊢
      exact bodyPost_ret (v := .agg #[.slice (some ⟨g, 0, none⟩) 6 c]) (by simp [results, Try.results61, go_sem, xf]) rfl ⟨_, 6, c, _, rfl, by omega, rf.short, fun W hs hb => (rf.keep hs (fun q h1 h2 => hb q (by omega) (by have := rf.2.2.1; omega))).rs, cf, kf⟩
  have t0 : (x == 0) = false := by simpa using e0
  by_cases e1 : x = 1
  case pos =>
    subst e1
    clear hx0 hx1 e0
    have i1 : (1 : Int) ≤ (6 : Int) := by decide
    have i2 : (6 : Int) ≤ (c : Int) := by omega
    go_wp2_with fail
    have s6 := R3.out.setOut (p := ⟨M, 0, none⟩) (.inr (Nat.le_refl _)) (.slice (some ⟨g, 1, none⟩) 5 (c - 1))
    have x6 := set_other (a := ⟨M, 0, none⟩) (v := .slice (some ⟨g, 1, none⟩) 5 (c - 1)) x3 (show M ≠ w.heap.size by omega)
    have k6 := K3.out.setCell (by omega) (p := ⟨M, 0, none⟩) (show w.heap.size ≤ M by omega) (.slice (some ⟨g, 1, none⟩) 5 (c - 1))
    have c6 := cur_set (i := 0) C3.out (g := M) (by omega) (.slice (some ⟨g, 1, none⟩) 5 (c - 1))
    generalize W3.setCell ⟨M, 0, none⟩ (.slice (some ⟨g, 1, none⟩) 5 (c - 1)) = W6 at s6 x6 k6 c6 ⊢
    have xf := set_same (v := .slice (some ⟨g, 1, none⟩) 5 (c - 1)) x6
    have kf := k6.setCell (by omega) (p := ⟨w.heap.size, 0, none⟩) (by simp) (.slice (some ⟨g, 1, none⟩) 5 (c - 1))
    have cf := cur_set (i := 0) c6 (g := w.heap.size) (by omega) (.slice (some ⟨g, 1, none⟩) 5 (c - 1))
    have rf := s6.setOut (p := ⟨w.heap.size, 0, none⟩) (.inl (show w.heap.size < w0.heap.size by omega)) (.slice (some ⟨g, 1, none⟩) 5 (c - 1))
    generalize (W6.setCell _ _) = Wf at xf kf cf rf ⊢
    exact bodyPost_ret (v := .agg #[.slice (some ⟨g, 1, none⟩) 5 (c - 1)]) (by simp [results, Try.results61, go_sem, xf]) rfl ⟨_, 5, c - 1, ll.drop 1, rfl, by omega, fun l hl => rf.short l (List.mem_of_mem_drop hl), fun W hs hb => (rf.keep hs (fun q h1 h2 => hb q (by omega) (by have := rf.2.2.1; omega))).tail, cf, kf⟩
  have t1 : (x == 1) = false := by simpa using e1
  clear hx0 hx1 e0 e1
  go_wp2_with fail
  have xf := set_same (v := .slice (some ⟨g, 0, none⟩) 6 c) x3
  have kf := K3.out.setCell (by omega) (p := ⟨w.heap.size, 0, none⟩) (by simp) (.slice (some ⟨g, 0, none⟩) 6 c)
  have cf := cur_set (i := 0) C3.out (g := w.heap.size) (by omega) (.slice (some ⟨g, 0, none⟩) 6 c)
  have rf := R3.out.setOut (p := ⟨w.heap.size, 0, none⟩) (.inl (show w.heap.size < w0.heap.size by omega)) (.slice (some ⟨g, 0, none⟩) 6 c)
  generalize (W3.setCell _ _) = Wf at xf kf cf rf ⊢
  exact bodyPost_ret (v := .agg #[.slice (some ⟨g, 0, none⟩) 6 c]) (by simp [results, Try.results61, go_sem, xf]) rfl ⟨_, 6, c, ll, rfl, by omega, rf.short, fun W hs hb => (rf.keep hs (fun q h1 h2 => hb q (by omega) (by have := rf.2.2.1; omega))).rs, cf, kf⟩
/-- a drawn store and some number -/
def DSt (w : World) (e : Ending) (w' : World) : Prop := ∃ A n c ll st, e = .returned (.tuple #[.agg #[.slice A n c], .int .i64 st]) ∧ n ≤ 6 ∧ (∀ l ∈ ll, List.length l ≤ 5) ∧ Rs w' w'.heap.size A n ll ∧ Below w.heap.size w w'
end Go.Proofs.Ytdfhnngcddaccaa.draws
