/- The program's and the model's StateAt: what each answers; nothing that was there is written. -/
import Derived.Test.YtigbknmiidhblaaRd
import Derived.Test.YtigbknmiidhblaaInts
import Derived.WalkKit
import Derived.ProofKit
import Derived.Below
import Derived.Lib.Hide
import Derived.LoopTactic
import Derived.Deep.QuietTactic
import Derived.BigQuiet
import Derived.Outline
import Derived.IntWalk
import Derived.Deep.OwnRows
import Derived.Laws.MakeOwn
import Derived.Laws.Entries
import Derived.Laws.AppendOwn
import Derived.Deep.AppendLies
import Derived.Laws.StructEq
import Derived.ChangeKeysEq
import Derived.Laws.IdiomCopy
namespace Go.Proofs.Ytigbknmiidhblaa.sa
open Go.ChangeShapes Go.WideShapes Go.ChangeAt Go.RowKit
open Go.Proofs.Ytigbknmiidhblaa.vers Go.Proofs.Ytigbknmiidhblaa.sl Go.Proofs.Ytigbknmiidhblaa.ch Go.Proofs.Ytigbknmiidhblaa.st Go.Proofs.Ytigbknmiidhblaa.val Go.Proofs.Ytigbknmiidhblaa.rd Go.Proofs.Ytigbknmiidhblaa.ints
set_option linter.unusedVariables false
set_option linter.unusedSimpArgs false
/-- the first k keys can be read at s -/
def RdOk (ll : List (List Ver)) (s : Int) (k : Nat) : Prop := ∀ i : Nat, i < k → raB ll i s = true
noncomputable def saV (ll : List (List Ver)) (s : Int) (k : Nat) : List Int := (List.range k).map fun i => (raV ll (i : Nat) s).b
noncomputable def saL (ll : List (List Ver)) (s : Int) : List Int := @ite _ (RdOk ll s 6) (Classical.propDecidable _) (saV ll s 6) []
theorem saL_yes {ll : List (List Ver)} {s : Int} (h : RdOk ll s 6) : saL ll s = saV ll s 6 := by unfold saL; exact if_pos h
theorem saL_no {ll : List (List Ver)} {s : Int} {k : Nat} (hk : k < 6) (h : raB ll (k : Nat) s = false) : saL ll s = [] := by
  unfold saL
  refine if_neg fun hh => ?_
  have := hh k hk
  rw [h] at this
  cases this
theorem rdok_zero (ll : List (List Ver)) (s : Int) : RdOk ll s 0 := fun i h => absurd h (by omega)
theorem rdok_step {ll : List (List Ver)} {s : Int} {k : Nat} (h : RdOk ll s k) (h2 : raB ll (k : Nat) s = true) : RdOk ll s (k + 1) := fun i hi => by
  by_cases e : i = k
  · subst e; exact h2
  · exact h i (by omega)
theorem saV_step (ll : List (List Ver)) (s : Int) (k : Nat) : saV ll s (k + 1) = saV ll s k ++ [(raV ll (k : Nat) s).b] := by
  unfold saV
  rw [List.range_succ, List.map_append]
  rfl
theorem saV_len (ll : List (List Ver)) (s : Int) (k : Nat) : (saV ll s k).length = k := by simp [saV]
theorem saV_get {ll : List (List Ver)} {s : Int} {k i : Nat} (h : i < k) : (saV ll s k)[i]? = some (raV ll (i : Nat) s).b := by simp [saV, h]
/-- an own row of integers reads as a list -/
theorem own_is {w : World} {B m : Nat} {v : Value} {xs : List Int} (ho : w.ownsRow B 3 1 v m (xs.map (Value.int .i64))) (hl : xs.length = m) : ∃ A c, v = .slice A m c ∧ Is w w.heap.size A m xs := by
  rcases Nat.eq_zero_or_pos m with h0 | h0
  · subst h0
    rcases ho.2 with ⟨rfl, _⟩ | ⟨g, cap, cur, rfl, _⟩
    · exact ⟨none, 0, rfl, hl, fun h => absurd h (by omega)⟩
    · exact ⟨_, cap, rfl, hl, fun h => absurd h (by omega)⟩
  · obtain ⟨g, cap, rfl, _, hlt⟩ := ho.form h0
    refine ⟨_, cap, rfl, hl, fun _ => ⟨g, 0, rfl, hlt, fun k x hx => ?_⟩⟩
    have := ho.cells (g := g) rfl k (.int .i64 x) (by rw [List.getElem?_map, hx]; rfl)
    rw [← this]
    congr 1
    unfold Addr.add
    split <;> simp_all
theorem own_keep {w w' : World} {B m : Nat} {v : Value} {xs : List Value} (h : w.ownsRow B 3 1 v m xs) (hb : Below w.heap.size w w') : w'.ownsRow B 3 1 v m xs := by
  rcases h.2 with ⟨h0, h1⟩ | ⟨g, cap, cur, hv, hbg, hgg, hnc, hcm, hsz, htk⟩
  · exact ⟨h.1, .inl ⟨h0, h1⟩⟩
  · refine ⟨h.1, .inr ⟨g, cap, cur, hv, hbg, ?_, hnc, hcm, hsz, htk⟩⟩
    have hlt : g < w.heap.size := by
      rcases Nat.lt_or_ge g w.heap.size with h' | h'
      · exact h'
      · rw [Array.getElem?_eq_none h'] at hgg; cases hgg
    rw [hb.block g hlt]; exact hgg
theorem cell_one (w : World) (v : Value) (t : TypeId) : ∀ (j : Nat) (u : Value), [v][j]? = some u → (w.alloc (.cells #[v] t)).cell? ((⟨w.heap.size, 0, none⟩ : Addr).add j) = some u := by
  intro j u hu
  match j, hu with
  | 0, hu =>
    simp only [List.getElem?_cons_zero, Option.some.injEq] at hu
    rw [← hu]
    exact World.cell?_alloc_mark w _ t _ 0
  | j + 1, hu => simp at hu
theorem cell_one2 (w : World) (o : Obj) (v : Value) (t : TypeId) : ∀ (j : Nat) (u : Value), [v][j]? = some u → ((w.alloc o).alloc (.cells #[v] t)).cell? ((⟨w.heap.size + 1, 0, none⟩ : Addr).add j) = some u := by
  have h := cell_one (w.alloc o) v t
  rw [World.size_alloc] at h
  exact h
theorem one_int (x : Int) : ∀ u ∈ [Value.int .i64 x], u.oneCell' = true := by
  intro u hu
  simp only [List.mem_singleton] at hu
  rw [hu]; rfl
theorem info_int : (Try.prog.info? 3).map (fun i => (i.zero, i.size, i.bytes)) = some (some (.int .i64 0), 1, 8) := by kernel_rfl
/-- an answer that reads as xs, in memory of the call's own or none -/
def Ans (xs : List Int) (w : World) (e : Ending) (w' : World) : Prop := ∃ A m c, e = .returned (.slice A m c) ∧ Is w' w'.heap.size A m xs ∧ Below w.heap.size w w'
/-! the program's: two arrays, then one copy -/
theorem info_bool : (Try.prog.info? 4).map (fun i => (i.zero, i.size, i.bytes)) = some (some (.bool false), 1, 1) := by kernel_rfl
theorem six_made (w : World) (v : Value) (t : TypeId) : (w.alloc (.cells #[v, v, v, v, v, v] t)).rowIs w.heap.size t 6 (fun _ => v) :=
  World.rowIs_alloc w #[v, v, v, v, v, v] t (fun _ => v) (fun i hi => by
    have : i = 0 ∨ i = 1 ∨ i = 2 ∨ i = 3 ∨ i = 4 ∨ i = 5 := by simp at hi; omega
    rcases this with rfl | rfl | rfl | rfl | rfl | rfl <;> rfl)
theorem saL_not {ll : List (List Ver)} {s : Int} (h : ¬ RdOk ll s 6) : saL ll s = [] := by unfold saL; exact if_neg h
/-- what the two arrays hold when the first k keys are read -/
noncomputable def fV (ll : List (List Ver)) (s : Int) (k i : Nat) : Value := if i < k then .int .i64 (raV ll (i : Nat) s).b else .int .i64 0
noncomputable def fU (ll : List (List Ver)) (s : Int) (k i : Nat) : Value := if i < k then .bool (!raB ll (i : Nat) s) else .bool false
theorem fV_step (ll : List (List Ver)) (s : Int) (k : Nat) {x : Int} (hx : (raV ll (k : Nat) s).b = x) : (fun j => if j = k then Value.int .i64 x else fV ll s k j) = fV ll s (k + 1) := by
  funext j
  unfold fV
  by_cases e : j = k
  · subst e; rw [if_pos rfl, if_pos (by omega), hx]
  · rw [if_neg e]
    by_cases h : j < k
    · rw [if_pos h, if_pos (by omega)]
    · rw [if_neg h, if_neg (by omega)]
theorem fU_step (ll : List (List Ver)) (s : Int) (k : Nat) {x : Bool} (hx : raB ll (k : Nat) s = x) : (fun j => if j = k then Value.bool (!x) else fU ll s k j) = fU ll s (k + 1) := by
  funext j
  unfold fU
  by_cases e : j = k
  · subst e; rw [if_pos rfl, if_pos (by omega), hx]
  · rw [if_neg e]
    by_cases h : j < k
    · rw [if_pos h, if_pos (by omega)]
    · rw [if_neg h, if_neg (by omega)]
theorem make6 (w : World) : (Instr.makeSlice 107 (.int .i64 6) (.int .i64 6)).run Try.prog w = .ok (.slice (some ⟨w.heap.size, 0, none⟩) 6 6) (w.alloc (.cells #[.int .i64 0, .int .i64 0, .int .i64 0, .int .i64 0, .int .i64 0, .int .i64 0] 3)) := by
  obtain ⟨i0, hi, hz0, hz1, hz2⟩ := info_parts info_int
  have hr := run_make (P := Try.prog) w 107 3 i0 _ Try.underlying107 hi hz0 .i64 .i64 (6 : Nat) (6 : Nat) (by omega) (by omega) (by rw [hz2]; omega) (by omega)
  simp only [Int.toNat_natCast, hz1, Value.cells, Nat.mul_one] at hr
  have e : madeCells #[Value.int .i64 0] 6 = #[.int .i64 0, .int .i64 0, .int .i64 0, .int .i64 0, .int .i64 0, .int .i64 0] := by kernel_rfl
  rw [e] at hr
  exact hr
theorem below_cells {B b : Nat} (hb : B ≤ b) : ∀ (vs : List Value) (o : Nat) {a w : World}, Below B a w → Below B a (w.setCells b o vs)
  | [], _, _, _, h => h
  | v :: r, o, a, w, h => below_cells hb r (o + 1) (h.setCell (p := ⟨b, o, none⟩) hb v)
theorem size_cells (b : Nat) : ∀ (vs : List Value) (o : Nat) (w : World), (w.setCells b o vs).heap.size = w.heap.size
  | [], _, _ => rfl
  | v :: r, o, w => (size_cells b r (o + 1) (w.setCell ⟨b, o, none⟩ v)).trans (by simp [World.setCell])
theorem row_cells {b n : Nat} {t : TypeId} : ∀ (vs : List Value) (o : Nat) (w : World) (f : Nat → Value), w.rowIs b t n f → ∃ f', (w.setCells b o vs).rowIs b t n f'
  | [], _, _, f, h => ⟨f, h⟩
  | v :: r, o, w, f, h => row_cells r (o + 1) (w.setCell ⟨b, o, none⟩ v) _ (h.set o v)
/-- an answer in a new row of the call's own, or nil -/
def AnsR (xs : List Int) (w : World) (e : Ending) (w' : World) : Prop :=
  (e = .returned (.slice none 0 0) ∧ xs = [] ∧ Below w.heap.size w w') ∨ ∃ g, e = .returned (.slice (some ⟨g, 0, none⟩) 6 6) ∧ w.heap.size ≤ g ∧ IR w' g 6 0 0 ∧ Is w' w'.heap.size (some ⟨g, 0, none⟩) 6 xs ∧ Below w.heap.size w w'
/-- a row, its cells known, over a call -/
theorem row_below {w w' : World} {b n B : Nat} {t : TypeId} {f : Nat → Value} (h : w.rowIs b t n f) (hb : Below B w w') (hl : b < B) : w'.rowIs b t n f := h.of_block (hb.block b hl)
end Go.Proofs.Ytigbknmiidhblaa.sa
