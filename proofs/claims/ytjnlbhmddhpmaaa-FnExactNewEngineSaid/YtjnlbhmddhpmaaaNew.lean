/- The program's and the model's NewStore: what each answers; nothing that was there is written. -/
import Derived.Test.YtjnlbhmddhpmaaaSt
import Derived.WalkKit
import Derived.ProofKit
import Derived.Below
import Derived.Lib.Hide
import Derived.LoopTactic
import Derived.Outline
import Derived.IntWalk
import Derived.Deep.OwnRows
import Derived.Laws.MakeOwn
import Derived.Laws.Entries
import Derived.Laws.AppendOwn
import Derived.Deep.AppendLies
namespace Go.Proofs.Ytjnlbhmddhpmaaa.new
open Go.ChangeShapes Go.WideShapes Go.ChangeAt Go.RowKit
open Go.Proofs.Ytjnlbhmddhpmaaa.vers Go.Proofs.Ytjnlbhmddhpmaaa.sl Go.Proofs.Ytjnlbhmddhpmaaa.ch Go.Proofs.Ytjnlbhmddhpmaaa.st
set_option linter.unusedVariables false
set_option linter.unusedSimpArgs false
def v0 : Ver := ⟨0, -1, 0, 0, 1000⟩
def ns : List (List Ver) := List.replicate 6 [v0]
theorem ns_len : ns.length = 6 := rfl
theorem ns_cnt : cnt ns = 6 := rfl
theorem ns_at {k : Nat} (h : k < 6) : ns[k]? = some [v0] := by
  have : k = 0 ∨ k = 1 ∨ k = 2 ∨ k = 3 ∨ k = 4 ∨ k = 5 := by omega
  rcases this with rfl | rfl | rfl | rfl | rfl | rfl <;> rfl
theorem make6 (w : World) : (Instr.makeSlice 22 (.int .i64 6) (.int .i64 6)).run Try.prog w = .ok (.slice (some ⟨w.heap.size, 0, none⟩) 6 6) (w.alloc (.cells (madeCells #[.slice none 0 0] 6) 100)) := make_rows 6 (by omega) w
theorem row_new (w : World) : Row (w.alloc (.cells #[.int .i64 0, .int .i64 (-1), .int .i64 0, .int .i64 0, .int .i64 1000] 99)) w.heap.size 1 [v0] 1 :=
  World.rowIs_alloc w #[.int .i64 0, .int .i64 (-1), .int .i64 0, .int .i64 0, .int .i64 1000] 99 _ (fun i hi => by
    have : i = 0 ∨ i = 1 ∨ i = 2 ∨ i = 3 ∨ i = 4 := by simp at hi; omega
    rcases this with rfl | rfl | rfl | rfl | rfl <;> rfl)
set_option maxRecDepth 100000 in
set_option maxHeartbeats 800000 in
theorem impl_new (w : World) : Calls Try.prog 34 #[] w (StoredR 6 ns w) := by
  have hmk := make6
  go_enter Try.func34, Try.ntmps34
  go_wp2
  have z0 := up (.cells (madeCells #[.slice none 0 0] 6) 100) (one_cell w (.slice none 0 0) 24) (by simp)
  have f0 := free_up (.cells (madeCells #[.slice none 0 0] 6) 100) (one_free w (.slice none 0 0) 24) (by simp)
  have hR0 := RR.made (w.alloc (.cells #[.slice none 0 0] 24)) 6 ns
  have hb0 := new2 w (.cells #[.slice none 0 0] 24) (.cells (madeCells #[.slice none 0 0] 6) 100)
  simp only [World.size_alloc] at hR0
  generalize (w.alloc _).alloc _ = w0 at z0 f0 hR0 hb0 ⊢
  have HB0 := Lib.hid hb0
  have HR0 := Lib.hid hR0
  clear hb0 hR0 hmk
  go_loopw [6] (fun i wr => ∃ k : Nat, k ≤ 6 ∧ i = .int .i64 k ∧ RR wr (w.heap.size + 1) 6 ns k ∧ wr.cell? ⟨w.heap.size, 0, none⟩ = some (.slice none 0 0) ∧ wr.frozen? ⟨w.heap.size, 0, none⟩ = false ∧ Below w.heap.size w wr) (fun i _ => 6 - (intOf i).toNat)
  case atStart => exact ⟨0, by omega, rfl, HR0.out, z0, f0, HB0.out⟩
  case round =>
    obtain ⟨k, hk, rfl, hR, c0, g0, hb⟩ := hrel
    have hNl := hR.lt
    have HR := Lib.hid hR
    have HB := Lib.hid hb
    clear hb
    by_cases hlt : k < 6
    · have t : decide ((k : Int) < 6) = true := decide_eq_true (by omega)
      obtain ⟨u, hu⟩ := hR.cell hlt
      have hfr := hR.frozen k
      have C0 := Lib.hid c0
      have G0 := Lib.hid g0
      clear hR c0 g0 z0 f0
      go_wp2_with fail
      go_roundw
      case rel =>
        have hset := HR.out.set ns_len (new1 wr _) hlt (ns_at hlt) (Nat.le_refl _) (row_new wr)
        rw [World.setCell_alloc_past _ _ _ _ hNl] at hset
        exact ⟨k + 1, by omega, by go_num, hset, up _ (set_other C0.out (by simp)) (by simp; omega), free_up _ (set_free G0.out) (by simp; omega), (HB.out.setCell (by simp) _).alloc (by have := HB.out.size; simp; omega) _⟩
      case measure => simp [intOf]; omega
    · have t : decide ((k : Int) < 6) = false := decide_eq_false (by omega)
      obtain rfl : k = 6 := by omega
      clear hR z0 f0
      go_wp2_with fail
      have e1 := set_same (v := .slice (some ⟨w.heap.size + 1, 0, none⟩) 6 6) c0
      have hR2 := HR.out.low (p := ⟨w.heap.size, 0, none⟩) (by simp) (.slice (some ⟨w.heap.size + 1, 0, none⟩) 6 6)
      have hbf := HB.out.setCell (p := ⟨w.heap.size, 0, none⟩) (by simp) (.slice (some ⟨w.heap.size + 1, 0, none⟩) 6 6)
      generalize (wr.setCell _ _) = Wf at e1 hR2 hbf ⊢
      exact bodyPost_ret (v := .agg #[.slice (some ⟨w.heap.size + 1, 0, none⟩) 6 6]) (by simp [results, Try.results34, go_sem, e1]) rfl ⟨w.heap.size + 1, rfl, by omega, hR2, hbf⟩
/-! the model's: appended one by one -/
theorem cell_one2 (w : World) (o : Obj) (v : Value) (t : TypeId) : ∀ (j : Nat) (u : Value), [v][j]? = some u → ((w.alloc o).alloc (.cells #[v] t)).cell? ((⟨w.heap.size + 1, 0, none⟩ : Addr).add j) = some u := by
  intro j u hu
  match j, hu with
  | 0, hu =>
    simp only [List.getElem?_cons_zero, Option.some.injEq] at hu
    rw [← hu]
    have := one_cell (w.alloc o) v t
    rw [World.size_alloc] at this
    exact this
  | j + 1, hu => simp at hu
theorem one_slice (A : Option Addr) (n c : Nat) : ∀ u ∈ [Value.slice A n c], u.oneCell' = true := by
  intro u hu
  simp only [List.mem_singleton] at hu
  rw [hu]; rfl
/-- the rows that the list of slices names -/
def Rows1 (B : Nat) (w : World) (vals : List Value) : Prop := ∀ u ∈ vals, ∃ M, u = .slice (some ⟨M, 0, none⟩) 1 1 ∧ Row w M 1 [v0] 1 ∧ B ≤ M
theorem Rows1.keep {B : Nat} {w w' : World} {vals : List Value} (h : Rows1 B w vals) (hb : ∀ M, B ≤ M → w'.heap[M]? = w.heap[M]?) : Rows1 B w' vals := fun u hu => by
  obtain ⟨M, h1, h2, h3⟩ := h u hu
  exact ⟨M, h1, World.rowIs.of_block h2 (hb M h3), h3⟩
/-- a row of versions is not the list's own row -/
theorem not_own {w : World} {B n : Nat} {v : Value} {xs : List Value} {M : Nat} (h : w.ownsRow B 100 1 v n xs) (hR : Row w M 1 [v0] 1) : v.ownBlock ≠ some M := by
  intro e
  obtain ⟨cur, hc, _, _⟩ := hR
  rcases h.2 with ⟨rfl, _⟩ | ⟨g, cap, cur', rfl, _, hgg, _⟩
  · simp [Value.ownBlock] at e
  · simp only [Value.ownBlock, Option.some.injEq] at e
    subst e
    rw [hc] at hgg
    simp at hgg
theorem own_rs {w : World} {B m : Nat} {v : Value} {vals : List Value} (ho : w.ownsRow B 100 1 v m vals) (hv : Rows1 B w vals) (hm : m = 6) : ∃ A c, v = .slice A 6 c ∧ Rs w w.heap.size A 6 ns := by
  subst hm
  obtain ⟨g, cap, rfl, _, hlt⟩ := ho.form (by omega)
  refine ⟨_, cap, rfl, rfl, fun _ => ⟨g, 0, rfl, hlt, fun k l hx => ?_⟩⟩
  have hk : k < 6 := lt_get hx
  rw [ns_at hk] at hx
  injection hx with hx
  subst hx
  have hlen : vals.length = 6 := by have := ho.1; omega
  have hg : vals[k]? = some (vals[k]'(by omega)) := List.getElem?_eq_getElem (by omega)
  obtain ⟨M, hu, hR, _⟩ := hv _ (List.getElem_mem (by omega : k < vals.length))
  rw [hu] at hg
  refine ⟨some ⟨M, 0, none⟩, 1, 1, ?_, by omega, (Row.vs hR rfl).more hR.lt⟩
  have := ho.cells (g := g) rfl k _ hg
  rw [← this]
  congr 1
  unfold Addr.add
  split <;> simp_all
theorem own_rs3 {w : World} {B : Nat} {A : Option Addr} {c : Nat} {vals : List Value} (ho : w.ownsRow B 100 1 (.slice A 6 c) 6 vals) (hv : Rows1 B w vals) : Rs w w.heap.size A 6 ns := by
  obtain ⟨A2, c2, h, hr⟩ := own_rs ho hv rfl
  injection h with e1 _ e2
  subst e1
  exact hr
theorem own_kept {w w2 : World} {B m : Nat} {v : Value} {vals : List Value} (h : w.ownsRow B 100 1 v m vals) (hs : w.heap.size ≤ w2.heap.size) (hk : ∀ q, B ≤ q → q < w.heap.size → w2.heap[q]? = w.heap[q]?) : w2.ownsRow B 100 1 v m vals :=
  ⟨h.1, h.2.imp id fun ⟨g, cap, cur, e, hb, hg, r⟩ => ⟨g, cap, cur, e, hb, (hk g hb (by
    rcases Nat.lt_or_ge g w.heap.size with h' | h'
    · exact h'
    · rw [Array.getElem?_eq_none h'] at hg; cases hg)).trans hg, r⟩⟩
theorem rows_kept {w w2 : World} {B : Nat} {vals : List Value} (h : Rows1 B w vals) (hk : ∀ q, B ≤ q → q < w.heap.size → w2.heap[q]? = w.heap[q]?) : Rows1 B w2 vals := fun u hu => by
  obtain ⟨M, h1, h2, h3⟩ := h u hu
  exact ⟨M, h1, World.rowIs.of_block h2 (hk M h3 h2.lt), h3⟩
set_option maxRecDepth 100000 in
set_option maxHeartbeats 1600000 in
theorem spec_new2 (w : World) : Calls Try.prog 33 #[] w fun e w' => ∃ A c, e = .returned (.agg #[.slice A 6 c]) ∧ (∀ w2 : World, w'.heap.size ≤ w2.heap.size → (∀ k, w.heap.size ≤ k → k < w'.heap.size → w2.heap[k]? = w'.heap[k]?) → Rs w2 w2.heap.size A 6 ns) ∧ Below w.heap.size w w' := by
  obtain ⟨i0, hi, hz0, hz1, hz2⟩ := info_parts info_row
  have HI := Lib.hid hi
  have HZ0 := Lib.hid hz0
  have HZ1 := Lib.hid hz1
  have HZ2 := Lib.hid hz2
  clear hi hz0 hz1 hz2
  go_enter Try.func33, Try.ntmps33
  go_wp2
  have z0 := up (.cells #[.slice none 0 0] 24) (one_cell w (.slice none 0 0) 24) (by simp)
  have z1 := one_cell (w.alloc (.cells #[.slice none 0 0] 24)) (.slice none 0 0) 24
  have f0 := free_up (.cells #[.slice none 0 0] 24) (one_free w (.slice none 0 0) 24) (by simp)
  have f1 := one_free (w.alloc (.cells #[.slice none 0 0] 24)) (.slice none 0 0) 24
  have hb0 := new2 w (.cells #[.slice none 0 0] 24) (.cells #[.slice none 0 0] 24)
  have hs0 : ((w.alloc (.cells #[.slice none 0 0] 24)).alloc (.cells #[.slice none 0 0] 24)).heap.size = w.heap.size + 2 := by simp
  simp only [World.size_alloc] at z1 f1
  generalize (w.alloc _).alloc _ = w0 at z0 z1 f0 f1 hb0 hs0 ⊢
  have HB0 := Lib.hid hb0
  clear hb0
  go_loopw [2] (fun i wr => ∃ (k : Nat) (v : Value) (vals : List Value), k ≤ 6 ∧ i = .int .i64 k ∧ wr.ownsRow (w.heap.size + 2) 100 1 v k vals ∧ Rows1 (w.heap.size + 2) wr vals ∧ wr.cell? ⟨w.heap.size, 0, none⟩ = some (.slice none 0 0) ∧ wr.cell? ⟨w.heap.size + 1, 0, none⟩ = some v ∧ wr.frozen? ⟨w.heap.size, 0, none⟩ = false ∧ wr.frozen? ⟨w.heap.size + 1, 0, none⟩ = false ∧ Below w.heap.size w wr ∧ w.heap.size + 2 ≤ wr.heap.size) (fun i _ => 6 - (intOf i).toNat)
  case atStart => exact ⟨0, _, [], by omega, rfl, ⟨rfl, .inl ⟨rfl, rfl⟩⟩, fun u hu => by simp at hu, z0, z1, f0, f1, HB0.out, by omega⟩
  case round =>
    obtain ⟨k, v, vals, hk, rfl, hown, hrows, c0, c1, g0, g1, hb, hs⟩ := hrel
    have HOWN := Lib.hid hown
    have HROWS := Lib.hid hrows
    have HB := Lib.hid hb
    clear hb z0 z1 f0 f1 hown hrows
    by_cases hlt : k < 6
    · have t : decide ((k : Int) < 6) = true := decide_eq_true (by omega)
      have C0 := Lib.hid c0
      have C1 := Lib.hid c1
      have G0 := Lib.hid g0
      have G1 := Lib.hid g1
      have hmax : k + 1 ≤ maxLen := by unfold maxLen; omega
      have hbyt : (k + 1) * 24 ≤ 140737488355328 := by omega
      have hbase : ∀ o o', w.heap.size + 2 ≤ ((wr.alloc o).alloc o').heap.size := fun o o' => by simp; omega
      clear c0 g0 g1
      go_wp2_with (at_builtin; refine wpList_append_own _ rfl _ _ 22 rfl (w.heap.size + 2) 100 i0 (.slice none 0 0) 1 24 Try.underlying22 HI.out HZ0.out HZ1.out HZ2.out rfl (by decide) _ _ _ rfl ((HOWN.out.alloc _).alloc _) ⟨_, 0, none⟩ 1 1 [.slice (some ⟨wr.heap.size, 0, none⟩) 1 1] rfl rfl (cell_one2 _ _ _ _) (one_slice _ _ _) hmax hbyt (hbase _ _) ?_)
      intro v' w1 hown' hgrow _
      have hrow := fun q hq => (HOWN.out.lt q hq).1
      have hgs := hgrow.size
      simp only [World.size_alloc] at hgs
      have hlow : ∀ p : Addr, p.block < w.heap.size + 2 → w1.heap[p.block]? = wr.heap[p.block]? := fun p hp => by
        rw [hgrow.block p.block (by simp; omega) (fun e => by have := hrow p.block e.symm; omega), Below.heap_alloc _ _ _ (by simp; omega), Below.heap_alloc _ _ _ (by omega)]
      have hb4 : Below w.heap.size w w1 := ((HB.out.alloc (by omega) _).alloc (by simp; omega) _).grown hgrow (by simp; omega) (fun q hq => by have := hrow q hq; omega)
      have d0 := (World.cell?_of_block (w := wr) (w' := w1) (a := ⟨w.heap.size, 0, none⟩) (hlow ⟨w.heap.size, 0, none⟩ (by simp))).trans C0.out
      have d1 := (World.cell?_of_block (w := wr) (w' := w1) (a := ⟨w.heap.size + 1, 0, none⟩) (hlow ⟨w.heap.size + 1, 0, none⟩ (by simp))).trans C1.out
      have e0 := (World.frozen?_of_block (w := wr) (w' := w1) (a := ⟨w.heap.size, 0, none⟩) (hlow ⟨w.heap.size, 0, none⟩ (by simp))).trans G0.out
      have e1 := (World.frozen?_of_block (w := wr) (w' := w1) (a := ⟨w.heap.size + 1, 0, none⟩) (hlow ⟨w.heap.size + 1, 0, none⟩ (by simp))).trans G1.out
      have hrows4 : Rows1 (w.heap.size + 2) w1 (vals ++ [.slice (some ⟨wr.heap.size, 0, none⟩) 1 1]) := by
        intro u hu
        rcases List.mem_append.1 hu with hu | hu
        · obtain ⟨M, h1, h2, h3⟩ := HROWS.out u hu
          have hM := h2.lt
          refine ⟨M, h1, World.rowIs.of_block h2 ?_, h3⟩
          rw [hgrow.block M (by simp; omega) (fun e => not_own HOWN.out h2 e.symm), Below.heap_alloc _ _ _ (by simp; omega), Below.heap_alloc _ _ _ hM]
        · simp only [List.mem_singleton] at hu
          refine ⟨wr.heap.size, hu, World.rowIs.of_block (World.rowIs.alloc (row_new wr) _) (hgrow.block _ (by simp; omega) (fun e => ?_)), hs⟩
          have h9 := (HOWN.out.lt _ e.symm).2
          omega
      obtain ⟨g, cap, rfl, _, _⟩ := hown'.form (by omega)
      have HB4 := Lib.hid hb4
      have HOWN4 := Lib.hid hown'
      have HROWS4 := Lib.hid hrows4
      clear hown' hgrow hrow hb4 hrows4 hmax hbyt hbase hlow c1
      go_wp2_with fail
      go_roundw
      case rel => exact ⟨k + 1, _, _, by omega, by go_num, ownsRow_setCell_below HOWN4.out (by simp) _, HROWS4.out.keep (fun M hM => Below.heap_setCell _ _ _ _ (fun e => by simp at e; omega)), set_other d0 (by simp), set_same d1, set_free e0, set_free e1, HB4.out.setCell (by simp) _, by simp [World.setCell]; omega⟩
      case measure => simp [intOf]; omega
    · have t : decide ((k : Int) < 6) = false := decide_eq_false (by omega)
      obtain rfl : k = 6 := by omega
      obtain ⟨A, c, rfl, hrs⟩ := own_rs HOWN.out HROWS.out rfl
      have HRS := Lib.hid hrs
      clear hrs
      go_wp2_with fail
      have e1 := set_same (v := .slice A 6 c) c0
      have hbf := HB.out.setCell (p := ⟨w.heap.size, 0, none⟩) (by simp) (.slice A 6 c)
      have hown2 := ownsRow_setCell_below HOWN.out (a := ⟨w.heap.size, 0, none⟩) (by simp) (.slice A 6 c)
      have hrows2 := HROWS.out.keep (w' := wr.setCell ⟨w.heap.size, 0, none⟩ (.slice A 6 c)) (fun M hM => Below.heap_setCell _ _ _ _ (fun e => by simp at e; omega))
      generalize (wr.setCell _ _) = Wf at e1 hbf hown2 hrows2 ⊢
      exact bodyPost_ret (v := .agg #[.slice A 6 c]) (by simp [results, Try.results33, go_sem, e1]) rfl ⟨A, c, rfl, fun w2 hs hk => own_rs3 (own_kept hown2 hs fun q h1 h2 => hk q (by omega) h2) (rows_kept hrows2 fun q h1 h2 => hk q (by omega) h2), hbf⟩
theorem spec_new (w : World) : Calls Try.prog 33 #[] w fun e w' => ∃ A c, e = .returned (.agg #[.slice A 6 c]) ∧ Rs w' w'.heap.size A 6 ns ∧ Below w.heap.size w w' :=
  (spec_new2 w).mono fun e w' ⟨A, c, he, h, hb⟩ => ⟨A, c, he, h w' (Nat.le_refl _) fun _ _ _ => rfl, hb⟩
end Go.Proofs.Ytjnlbhmddhpmaaa.new
