/- The program's and the model's NewStore: what each answers; nothing that was there is written. -/
import Derived.Test.YtleeglgjaifejaaDoorSt
import Derived.WalkKit
import Derived.ProofKit
import Derived.Below
import Derived.Lib.Hide
import Derived.LoopTactic
import Derived.Outline
import Derived.IntWalk
import Derived.Deep.OwnRows
import Derived.Laws.MakeOwn
import Derived.Laws.Entries
import Derived.Laws.AppendOwn
import Derived.Deep.AppendLies
namespace Go.Proofs.YtleeglgjaifejaaDoor.new
open Go.ChangeShapes Go.WideShapes Go.ChangeAt Go.RowKit
open Go.Proofs.YtleeglgjaifejaaDoor.vers Go.Proofs.YtleeglgjaifejaaDoor.sl Go.Proofs.YtleeglgjaifejaaDoor.ch Go.Proofs.YtleeglgjaifejaaDoor.st
set_option linter.unusedVariables false
set_option linter.unusedSimpArgs false
def v0 : Ver := ⟨0, -1, 0, 0, 1000⟩
def ns : List (List Ver) := List.replicate 6 [v0]
theorem ns_len : ns.length = 6 := rfl
theorem ns_cnt : cnt ns = 6 := rfl
theorem ns_at {k : Nat} (h : k < 6) : ns[k]? = some [v0] := by
  have : k = 0 ∨ k = 1 ∨ k = 2 ∨ k = 3 ∨ k = 4 ∨ k = 5 := by omega
  rcases this with rfl | rfl | rfl | rfl | rfl | rfl <;> rfl
theorem make6 (w : World) : (Instr.makeSlice 24 (.int .i64 6) (.int .i64 6)).run Tryd.prog w = .ok (.slice (some ⟨w.heap.size, 0, none⟩) 6 6) (w.alloc (.cells (madeCells #[.slice none 0 0] 6) 44)) := make_rows 6 (by omega) w
theorem row_new (w : World) : Row (w.alloc (.cells #[.int .i64 0, .int .i64 (-1), .int .i64 0, .int .i64 0, .int .i64 1000] 36)) w.heap.size 1 [v0] 1 :=
  World.rowIs_alloc w #[.int .i64 0, .int .i64 (-1), .int .i64 0, .int .i64 0, .int .i64 1000] 36 _ (fun i hi => by
    have : i = 0 ∨ i = 1 ∨ i = 2 ∨ i = 3 ∨ i = 4 := by simp at hi; omega
    rcases this with rfl | rfl | rfl | rfl | rfl <;> rfl)
set_option maxRecDepth 100000 in
set_option maxHeartbeats 800000 in
theorem impl_new (w : World) : Calls Tryd.prog 20 #[] w (StoredR 6 ns w) := by
  have hmk := make6
  go_enter Tryd.func20, Tryd.ntmps20
  go_wp2
  have z0 := up (.cells (madeCells #[.slice none 0 0] 6) 44) (one_cell w (.slice none 0 0) 26) (by simp)
  have f0 := free_up (.cells (madeCells #[.slice none 0 0] 6) 44) (one_free w (.slice none 0 0) 26) (by simp)
  have hR0 := RR.made (w.alloc (.cells #[.slice none 0 0] 26)) 6 ns
  have hb0 := new2 w (.cells #[.slice none 0 0] 26) (.cells (madeCells #[.slice none 0 0] 6) 44)
  simp only [World.size_alloc] at hR0
  generalize (w.alloc _).alloc _ = w0 at z0 f0 hR0 hb0 ⊢
  have HB0 := Lib.hid hb0
  have HR0 := Lib.hid hR0
  clear hb0 hR0 hmk
  go_loopw [6] (fun i wr => ∃ k : Nat, k ≤ 6 ∧ i = .int .i64 k ∧ RR wr (w.heap.size + 1) 6 ns k ∧ wr.cell? ⟨w.heap.size, 0, none⟩ = some (.slice none 0 0) ∧ wr.frozen? ⟨w.heap.size, 0, none⟩ = false ∧ Below w.heap.size w wr) (fun i _ => 6 - (intOf i).toNat)
  case atStart => exact ⟨0, by omega, rfl, HR0.out, z0, f0, HB0.out⟩
  case round =>
    obtain ⟨k, hk, rfl, hR, c0, g0, hb⟩ := hrel
    have hNl := hR.lt
    have HR := Lib.hid hR
    have HB := Lib.hid hb
    clear hb
    by_cases hlt : k < 6
    · have t : decide ((k : Int) < 6) = true := decide_eq_true (by omega)
      obtain ⟨u, hu⟩ := hR.cell hlt
      have hfr := hR.frozen k
      have C0 := Lib.hid c0
      have G0 := Lib.hid g0
      clear hR c0 g0 z0 f0
      go_wp2_with fail
      go_roundw
      case rel =>
        have hset := HR.out.set ns_len (new1 wr _) hlt (ns_at hlt) (Nat.le_refl _) (row_new wr)
        rw [World.setCell_alloc_past _ _ _ _ hNl] at hset
        exact ⟨k + 1, by omega, by go_num, hset, up _ (set_other C0.out (by simp)) (by simp; omega), free_up _ (set_free G0.out) (by simp; omega), (HB.out.setCell (by simp) _).alloc (by have := HB.out.size; simp; omega) _⟩
      case measure => simp [intOf]; omega
    · have t : decide ((k : Int) < 6) = false := decide_eq_false (by omega)
      obtain rfl : k = 6 := by omega
      clear hR z0 f0
      go_wp2_with fail
      have e1 := set_same (v := .slice (some ⟨w.heap.size + 1, 0, none⟩) 6 6) c0
      have hR2 := HR.out.low (p := ⟨w.heap.size, 0, none⟩) (by simp) (.slice (some ⟨w.heap.size + 1, 0, none⟩) 6 6)
      have hbf := HB.out.setCell (p := ⟨w.heap.size, 0, none⟩) (by simp) (.slice (some ⟨w.heap.size + 1, 0, none⟩) 6 6)
      generalize (wr.setCell _ _) = Wf at e1 hR2 hbf ⊢
      exact bodyPost_ret (v := .agg #[.slice (some ⟨w.heap.size + 1, 0, none⟩) 6 6]) (by simp [results, Tryd.results20, go_sem, e1]) rfl ⟨w.heap.size + 1, rfl, by omega, hR2, hbf⟩
/-! the model's: appended one by one -/
theorem cell_one2 (w : World) (o : Obj) (v : Value) (t : TypeId) : ∀ (j : Nat) (u : Value), [v][j]? = some u → ((w.alloc o).alloc (.cells #[v] t)).cell? ((⟨w.heap.size + 1, 0, none⟩ : Addr).add j) = some u := by
  intro j u hu
  match j, hu with
  | 0, hu =>
    simp only [List.getElem?_cons_zero, Option.some.injEq] at hu
    rw [← hu]
    have := one_cell (w.alloc o) v t
    rw [World.size_alloc] at this
    exact this
  | j + 1, hu => simp at hu
theorem one_slice (A : Option Addr) (n c : Nat) : ∀ u ∈ [Value.slice A n c], u.oneCell' = true := by
  intro u hu
  simp only [List.mem_singleton] at hu
  rw [hu]; rfl
/-- the rows that the list of slices names -/
def Rows1 (B : Nat) (w : World) (vals : List Value) : Prop := ∀ u ∈ vals, ∃ M, u = .slice (some ⟨M, 0, none⟩) 1 1 ∧ Row w M 1 [v0] 1 ∧ B ≤ M
theorem Rows1.keep {B : Nat} {w w' : World} {vals : List Value} (h : Rows1 B w vals) (hb : ∀ M, B ≤ M → w'.heap[M]? = w.heap[M]?) : Rows1 B w' vals := fun u hu => by
  obtain ⟨M, h1, h2, h3⟩ := h u hu
  exact ⟨M, h1, World.rowIs.of_block h2 (hb M h3), h3⟩
/-- a row of versions is not the list's own row -/
theorem not_own {w : World} {B n : Nat} {v : Value} {xs : List Value} {M : Nat} (h : w.ownsRow B 44 1 v n xs) (hR : Row w M 1 [v0] 1) : v.ownBlock ≠ some M := by
  intro e
  obtain ⟨cur, hc, _, _⟩ := hR
  rcases h.2 with ⟨rfl, _⟩ | ⟨g, cap, cur', rfl, _, hgg, _⟩
  · simp [Value.ownBlock] at e
  · simp only [Value.ownBlock, Option.some.injEq] at e
    subst e
    rw [hc] at hgg
    simp at hgg
theorem own_rs {w : World} {B m : Nat} {v : Value} {vals : List Value} (ho : w.ownsRow B 44 1 v m vals) (hv : Rows1 B w vals) (hm : m = 6) : ∃ A c, v = .slice A 6 c ∧ Rs w w.heap.size A 6 ns := by
  subst hm
  obtain ⟨g, cap, rfl, _, hlt⟩ := ho.form (by omega)
  refine ⟨_, cap, rfl, rfl, fun _ => ⟨g, 0, rfl, hlt, fun k l hx => ?_⟩⟩
  have hk : k < 6 := lt_get hx
  rw [ns_at hk] at hx
  injection hx with hx
  subst hx
  have hlen : vals.length = 6 := by have := ho.1; omega
  have hg : vals[k]? = some (vals[k]'(by omega)) := List.getElem?_eq_getElem (by omega)
  obtain ⟨M, hu, hR, _⟩ := hv _ (List.getElem_mem (by omega : k < vals.length))
  rw [hu] at hg
  refine ⟨some ⟨M, 0, none⟩, 1, 1, ?_, by omega, (Row.vs hR rfl).more hR.lt⟩
  have := ho.cells (g := g) rfl k _ hg
  rw [← this]
  congr 1
  unfold Addr.add
  split <;> simp_all
end Go.Proofs.YtleeglgjaifejaaDoor.new
