/- The program's and the model's StateAt: what each answers; nothing that was there is written. -/
import Derived.Test.YtleeglgjaifejaaDoorRd
import Derived.Test.YtleeglgjaifejaaDoorInts
import Derived.WalkKit
import Derived.ProofKit
import Derived.Below
import Derived.Lib.Hide
import Derived.LoopTactic
import Derived.Deep.QuietTactic
import Derived.BigQuiet
import Derived.Outline
import Derived.IntWalk
import Derived.Deep.OwnRows
import Derived.Laws.MakeOwn
import Derived.Laws.Entries
import Derived.Laws.AppendOwn
import Derived.Deep.AppendLies
import Derived.Laws.StructEq
import Derived.ChangeKeysEq
import Derived.Laws.IdiomCopy
namespace Go.Proofs.YtleeglgjaifejaaDoor.sa
open Go.ChangeShapes Go.WideShapes Go.ChangeAt Go.RowKit
open Go.Proofs.YtleeglgjaifejaaDoor.vers Go.Proofs.YtleeglgjaifejaaDoor.sl Go.Proofs.YtleeglgjaifejaaDoor.ch Go.Proofs.YtleeglgjaifejaaDoor.st Go.Proofs.YtleeglgjaifejaaDoor.val Go.Proofs.YtleeglgjaifejaaDoor.rd Go.Proofs.YtleeglgjaifejaaDoor.ints
set_option linter.unusedVariables false
set_option linter.unusedSimpArgs false
/-- the first k keys can be read at s -/
def RdOk (ll : List (List Ver)) (s : Int) (k : Nat) : Prop := ∀ i : Nat, i < k → raB ll i s = true
noncomputable def saV (ll : List (List Ver)) (s : Int) (k : Nat) : List Int := (List.range k).map fun i => (raV ll (i : Nat) s).b
noncomputable def saL (ll : List (List Ver)) (s : Int) : List Int := @ite _ (RdOk ll s 6) (Classical.propDecidable _) (saV ll s 6) []
theorem saL_yes {ll : List (List Ver)} {s : Int} (h : RdOk ll s 6) : saL ll s = saV ll s 6 := by unfold saL; exact if_pos h
theorem saL_no {ll : List (List Ver)} {s : Int} {k : Nat} (hk : k < 6) (h : raB ll (k : Nat) s = false) : saL ll s = [] := by
  unfold saL
  refine if_neg fun hh => ?_
  have := hh k hk
  rw [h] at this
  cases this
theorem rdok_zero (ll : List (List Ver)) (s : Int) : RdOk ll s 0 := fun i h => absurd h (by omega)
theorem rdok_step {ll : List (List Ver)} {s : Int} {k : Nat} (h : RdOk ll s k) (h2 : raB ll (k : Nat) s = true) : RdOk ll s (k + 1) := fun i hi => by
  by_cases e : i = k
  · subst e; exact h2
  · exact h i (by omega)
theorem saV_step (ll : List (List Ver)) (s : Int) (k : Nat) : saV ll s (k + 1) = saV ll s k ++ [(raV ll (k : Nat) s).b] := by
  unfold saV
  rw [List.range_succ, List.map_append]
  rfl
theorem saV_len (ll : List (List Ver)) (s : Int) (k : Nat) : (saV ll s k).length = k := by simp [saV]
theorem saV_get {ll : List (List Ver)} {s : Int} {k i : Nat} (h : i < k) : (saV ll s k)[i]? = some (raV ll (i : Nat) s).b := by simp [saV, h]
/-- an own row of integers reads as a list -/
theorem own_is {w : World} {B m : Nat} {v : Value} {xs : List Int} (ho : w.ownsRow B 3 1 v m (xs.map (Value.int .i64))) (hl : xs.length = m) : ∃ A c, v = .slice A m c ∧ Is w w.heap.size A m xs := by
  rcases Nat.eq_zero_or_pos m with h0 | h0
  · subst h0
    rcases ho.2 with ⟨rfl, _⟩ | ⟨g, cap, cur, rfl, _⟩
    · exact ⟨none, 0, rfl, hl, fun h => absurd h (by omega)⟩
    · exact ⟨_, cap, rfl, hl, fun h => absurd h (by omega)⟩
  · obtain ⟨g, cap, rfl, _, hlt⟩ := ho.form h0
    refine ⟨_, cap, rfl, hl, fun _ => ⟨g, 0, rfl, hlt, fun k x hx => ?_⟩⟩
    have := ho.cells (g := g) rfl k (.int .i64 x) (by rw [List.getElem?_map, hx]; rfl)
    rw [← this]
    congr 1
    unfold Addr.add
    split <;> simp_all
theorem own_keep {w w' : World} {B m : Nat} {v : Value} {xs : List Value} (h : w.ownsRow B 3 1 v m xs) (hb : Below w.heap.size w w') : w'.ownsRow B 3 1 v m xs := by
  rcases h.2 with ⟨h0, h1⟩ | ⟨g, cap, cur, hv, hbg, hgg, hnc, hcm, hsz, htk⟩
  · exact ⟨h.1, .inl ⟨h0, h1⟩⟩
  · refine ⟨h.1, .inr ⟨g, cap, cur, hv, hbg, ?_, hnc, hcm, hsz, htk⟩⟩
    have hlt : g < w.heap.size := by
      rcases Nat.lt_or_ge g w.heap.size with h' | h'
      · exact h'
      · rw [Array.getElem?_eq_none h'] at hgg; cases hgg
    rw [hb.block g hlt]; exact hgg
theorem cell_one (w : World) (v : Value) (t : TypeId) : ∀ (j : Nat) (u : Value), [v][j]? = some u → (w.alloc (.cells #[v] t)).cell? ((⟨w.heap.size, 0, none⟩ : Addr).add j) = some u := by
  intro j u hu
  match j, hu with
  | 0, hu =>
    simp only [List.getElem?_cons_zero, Option.some.injEq] at hu
    rw [← hu]
    exact World.cell?_alloc_mark w _ t _ 0
  | j + 1, hu => simp at hu
theorem cell_one2 (w : World) (o : Obj) (v : Value) (t : TypeId) : ∀ (j : Nat) (u : Value), [v][j]? = some u → ((w.alloc o).alloc (.cells #[v] t)).cell? ((⟨w.heap.size + 1, 0, none⟩ : Addr).add j) = some u := by
  have h := cell_one (w.alloc o) v t
  rw [World.size_alloc] at h
  exact h
theorem one_int (x : Int) : ∀ u ∈ [Value.int .i64 x], u.oneCell' = true := by
  intro u hu
  simp only [List.mem_singleton] at hu
  rw [hu]; rfl
theorem info_int : (Tryd.prog.info? 3).map (fun i => (i.zero, i.size, i.bytes)) = some (some (.int .i64 0), 1, 8) := by kernel_rfl
/-- an answer that reads as xs, in memory of the call's own or none -/
def Ans (xs : List Int) (w : World) (e : Ending) (w' : World) : Prop := ∃ A m c, e = .returned (.slice A m c) ∧ Is w' w'.heap.size A m xs ∧ Below w.heap.size w w'
set_option maxRecDepth 100000 in
set_option maxHeartbeats 1600000 in
theorem spec_state {w : World} {B n c : Nat} {A : Option Addr} {ll : List (List Ver)} (s : Int) (hn : n ≤ 140737488355328) (h1 : Rs w B A n ll) (hB : B ≤ w.heap.size) :
    Calls Tryd.prog 9 #[.agg #[.slice A n c], .int .i64 s] w (Ans (saL ll s) w) := by
  have H1 := Lib.hid h1
  have hln := h1.1
  obtain ⟨i0, hi, hz0, hz1, hz2⟩ := info_parts info_int
  have HI := Lib.hid hi
  have HZ0 := Lib.hid hz0
  have HZ1 := Lib.hid hz1
  have HZ2 := Lib.hid hz2
  clear h1 hi hz0 hz1 hz2
  go_enter Tryd.func9, Tryd.ntmps9
  go_wp2
  have z0 := up (.cells #[] 3) (one_cell w (.slice A n c) 26) (by simp)
  have hown0 : ((w.alloc (.cells #[.slice A n c] 26)).alloc (.cells #[] 3)).ownsRow (w.heap.size + 1) 3 1 (.slice (some ⟨w.heap.size + 1, 0, none⟩) 0 0) 0 ((saV ll s 0).map (Value.int .i64)) := by
    refine ⟨rfl, .inr ⟨w.heap.size + 1, 0, #[], rfl, Nat.le_refl _, ?_, Nat.le_refl _, by unfold maxLen; omega, rfl, rfl⟩⟩
    have := heap_alloc_new (w.alloc (.cells #[.slice A n c] 26)) (.cells #[] 3)
    simpa using this
  have hb0 := new2 w (.cells #[.slice A n c] 26) (.cells #[] 3)
  have hs0 : ((w.alloc (.cells #[.slice A n c] 26)).alloc (.cells #[] 3)).heap.size = w.heap.size + 2 := by simp
  generalize (w.alloc _).alloc _ = w0 at z0 hown0 hb0 hs0 ⊢
  have HB0 := Lib.hid (below_le (B' := w.heap.size + 1) (Below.refl w0.heap.size w0) (by omega))
  have HBw := Lib.hid hb0
  have HOWN0 := Lib.hid hown0
  have Z0 := Lib.hid z0
  clear hb0 hown0 z0
  go_loopw [5, 6] (fun v i wr => ∃ k : Nat, k ≤ 6 ∧ i = .int .i64 k ∧ RdOk ll s k ∧ wr.ownsRow (w.heap.size + 1) 3 1 v k ((saV ll s k).map (Value.int .i64)) ∧ Below (w.heap.size + 1) w0 wr) (fun _ i _ => 6 - (intOf i).toNat)
  case atStart => exact ⟨0, by omega, rfl, rdok_zero _ _, HOWN0.out, HB0.out⟩
  case round =>
    obtain ⟨k, hk, rfl, hok, hown, hb⟩ := hrel
    have HOK := Lib.hid hok
    have HOWN := Lib.hid hown
    have HB := Lib.hid hb
    have hs1 := hb.size
    have c0 := (hb.cell (p := ⟨w.heap.size, 0, none⟩) (by simp)).trans Z0.out
    have HW := Lib.hid (HBw.out.trans (hb.mono (by omega)))
    clear hok hown hb
    by_cases hlt : k < 6
    · have t : decide ((k : Int) < 6) = true := decide_eq_true (by omega)
      obtain ⟨x, hx⟩ : ∃ x, raV ll (k : Nat) s = x := ⟨_, rfl⟩
      have HX := Lib.hid hx
      clear hx
      rcases hq : raB ll (k : Nat) s with _ | _
      · have HQ := Lib.hid hq
        have hno := saL_no hlt hq
        have HNO := Lib.hid hno
        clear hq hno
        go_wp2_with fail
        refine (spec_readat (k : Nat) s HX.out HQ.out hn (H1.out.below (below_le HW.out hB)) (by omega)).mono ?_
        rintro e W1 ⟨rfl, hb1⟩
        have HB1 := Lib.hid (HW.out.trans (hb1.mono (by omega)))
        clear hb1 c0
        go_wp2_with fail
        go_ret
        exact ⟨_, _, _, rfl, by rw [HNO.out]; exact Is.nil_ _ _ _, (HB1.out.alloc HB1.out.size _).alloc (by have := HB1.out.size; simp; omega) _⟩
      · have HQ := Lib.hid hq
        clear hq
        go_wp2_with fail
        refine (spec_readat (k : Nat) s HX.out HQ.out hn (H1.out.below (below_le HW.out hB)) (by omega)).mono ?_
        rintro e W1 ⟨rfl, hb1⟩
        have HB1 := Lib.hid (HB.out.trans (hb1.mono (by omega)))
        have HOWN1 := Lib.hid (own_keep HOWN.out hb1)
        have hs2 := hb1.size
        have hmax : k + 1 ≤ maxLen := by unfold maxLen; omega
        have hbyt : (k + 1) * 8 ≤ 140737488355328 := by omega
        have hbase : ∀ o o', w.heap.size + 1 ≤ ((W1.alloc o).alloc o').heap.size := fun o o' => by simp; omega
        clear hb1 c0
        go_wp2_with (at_builtin; refine wpList_append_own _ rfl _ _ 29 rfl (w.heap.size + 1) 3 i0 (.int .i64 0) 1 8 Tryd.underlying29 HI.out HZ0.out HZ1.out HZ2.out rfl (by decide) _ _ _ rfl ((HOWN1.out.alloc _).alloc _) ⟨_, 0, none⟩ 1 1 [.int .i64 x.b] rfl rfl (cell_one2 _ _ _ _) (one_int _) hmax hbyt (hbase _ _) ?_)
        intro v' w1 hown' hgrow _
        have hrow := fun q hq => (HOWN1.out.lt q hq).1
        have hb4 : Below (w.heap.size + 1) w0 w1 := ((HB1.out.alloc (by omega) _).alloc (by simp; omega) _).grown hgrow (hbase _ _) hrow
        have hown4 : w1.ownsRow (w.heap.size + 1) 3 1 v' (k + 1) ((saV ll s (k + 1)).map (Value.int .i64)) := by
          rw [saV_step, HX.out, List.map_append]
          exact hown'
        have HB4 := Lib.hid hb4
        have HOWN4 := Lib.hid hown4
        clear hown' hgrow hrow hb4 hown4 hmax hbyt hbase
        go_wp2_with fail
        go_roundw
        case rel => exact ⟨k + 1, by omega, by go_num, rdok_step HOK.out HQ.out, HOWN4.out, HB4.out⟩
        case measure => simp [intOf]; omega
    · have t : decide ((k : Int) < 6) = false := decide_eq_false (by omega)
      obtain rfl : k = 6 := by omega
      have hyes := saL_yes HOK.out
      obtain ⟨A', c', rfl, his⟩ := own_is HOWN.out (saV_len ll s 6)
      have HIS := Lib.hid his
      have HY := Lib.hid hyes
      clear his hyes c0
      go_wp2_with fail
      go_ret
      exact ⟨_, _, _, rfl, by rw [HY.out]; exact HIS.out, HW.out⟩
/-! the program's: two arrays, then one copy -/
theorem info_bool : (Tryd.prog.info? 4).map (fun i => (i.zero, i.size, i.bytes)) = some (some (.bool false), 1, 1) := by kernel_rfl
theorem neq6 (b0 b1 b2 b3 b4 b5 : Bool) (w : World) :
    (binOp .neq 54 (.agg #[.bool b0, .bool b1, .bool b2, .bool b3, .bool b4, .bool b5]) (.agg #[.bool false, .bool false, .bool false, .bool false, .bool false, .bool false])).run Tryd.prog w = .ok (.bool (b0 || b1 || b2 || b3 || b4 || b5)) w := by
  obtain ⟨i, hi, _, _, _⟩ := info_parts info_bool
  have hc : Tryd.prog.cellsOf 4 = 1 := by kernel_rfl
  have hb := Tryd.underlying4
  rw [run_neq_struct, run_equalIn_array w 9999 _ _ Tryd.underlying54 hi, hc, show List.range 6 = [0, 1, 2, 3, 4, 5] from rfl]
  simp [Op.eqItems, go_sem, hb]
  cases b0 <;> simp
  cases b1 <;> simp
  cases b2 <;> simp
  cases b3 <;> simp
  cases b4 <;> simp
  cases b5 <;> simp
theorem six_made (w : World) (v : Value) (t : TypeId) : (w.alloc (.cells #[v, v, v, v, v, v] t)).rowIs w.heap.size t 6 (fun _ => v) :=
  World.rowIs_alloc w #[v, v, v, v, v, v] t (fun _ => v) (fun i hi => by
    have : i = 0 ∨ i = 1 ∨ i = 2 ∨ i = 3 ∨ i = 4 ∨ i = 5 := by simp at hi; omega
    rcases this with rfl | rfl | rfl | rfl | rfl | rfl <;> rfl)
theorem saL_not {ll : List (List Ver)} {s : Int} (h : ¬ RdOk ll s 6) : saL ll s = [] := by unfold saL; exact if_neg h
/-- what the two arrays hold when the first k keys are read -/
noncomputable def fV (ll : List (List Ver)) (s : Int) (k i : Nat) : Value := if i < k then .int .i64 (raV ll (i : Nat) s).b else .int .i64 0
noncomputable def fU (ll : List (List Ver)) (s : Int) (k i : Nat) : Value := if i < k then .bool (!raB ll (i : Nat) s) else .bool false
theorem fV_step (ll : List (List Ver)) (s : Int) (k : Nat) {x : Int} (hx : (raV ll (k : Nat) s).b = x) : (fun j => if j = k then Value.int .i64 x else fV ll s k j) = fV ll s (k + 1) := by
  funext j
  unfold fV
  by_cases e : j = k
  · subst e; rw [if_pos rfl, if_pos (by omega), hx]
  · rw [if_neg e]
    by_cases h : j < k
    · rw [if_pos h, if_pos (by omega)]
    · rw [if_neg h, if_neg (by omega)]
theorem fU_step (ll : List (List Ver)) (s : Int) (k : Nat) {x : Bool} (hx : raB ll (k : Nat) s = x) : (fun j => if j = k then Value.bool (!x) else fU ll s k j) = fU ll s (k + 1) := by
  funext j
  unfold fU
  by_cases e : j = k
  · subst e; rw [if_pos rfl, if_pos (by omega), hx]
  · rw [if_neg e]
    by_cases h : j < k
    · rw [if_pos h, if_pos (by omega)]
    · rw [if_neg h, if_neg (by omega)]
theorem make6 (w : World) : (Instr.makeSlice 29 (.int .i64 6) (.int .i64 6)).run Tryd.prog w = .ok (.slice (some ⟨w.heap.size, 0, none⟩) 6 6) (w.alloc (.cells #[.int .i64 0, .int .i64 0, .int .i64 0, .int .i64 0, .int .i64 0, .int .i64 0] 3)) := by
  obtain ⟨i0, hi, hz0, hz1, hz2⟩ := info_parts info_int
  have hr := run_make (P := Tryd.prog) w 29 3 i0 _ Tryd.underlying29 hi hz0 .i64 .i64 (6 : Nat) (6 : Nat) (by omega) (by omega) (by rw [hz2]; omega) (by omega)
  simp only [Int.toNat_natCast, hz1, Value.cells, Nat.mul_one] at hr
  have e : madeCells #[Value.int .i64 0] 6 = #[.int .i64 0, .int .i64 0, .int .i64 0, .int .i64 0, .int .i64 0, .int .i64 0] := by kernel_rfl
  rw [e] at hr
  exact hr
theorem below_cells {B b : Nat} (hb : B ≤ b) : ∀ (vs : List Value) (o : Nat) {a w : World}, Below B a w → Below B a (w.setCells b o vs)
  | [], _, _, _, h => h
  | v :: r, o, a, w, h => below_cells hb r (o + 1) (h.setCell (p := ⟨b, o, none⟩) hb v)
theorem size_cells (b : Nat) : ∀ (vs : List Value) (o : Nat) (w : World), (w.setCells b o vs).heap.size = w.heap.size
  | [], _, _ => rfl
  | v :: r, o, w => (size_cells b r (o + 1) (w.setCell ⟨b, o, none⟩ v)).trans (by simp [World.setCell])
theorem row_cells {b n : Nat} {t : TypeId} : ∀ (vs : List Value) (o : Nat) (w : World) (f : Nat → Value), w.rowIs b t n f → ∃ f', (w.setCells b o vs).rowIs b t n f'
  | [], _, _, f, h => ⟨f, h⟩
  | v :: r, o, w, f, h => row_cells r (o + 1) (w.setCell ⟨b, o, none⟩ v) _ (h.set o v)
/-- an answer in a new row of the call's own, or nil -/
def AnsR (xs : List Int) (w : World) (e : Ending) (w' : World) : Prop :=
  (e = .returned (.slice none 0 0) ∧ xs = [] ∧ Below w.heap.size w w') ∨ ∃ g, e = .returned (.slice (some ⟨g, 0, none⟩) 6 6) ∧ w.heap.size ≤ g ∧ IR w' g 6 0 0 ∧ Is w' w'.heap.size (some ⟨g, 0, none⟩) 6 xs ∧ Below w.heap.size w w'
/-- the copy of six integers into a new row -/
theorem copy6 {w : World} {V : Nat} {ll : List (List Ver)} {s : Int} (hV : w.rowIs V 52 6 (fV ll s 6)) :
    ∃ W, (Builtin.copy_ #[29, 29] 3 #[.slice (some ⟨w.heap.size, 0, none⟩) 6 6, .slice (some ⟨V, 0, none⟩) 6 6]).run Tryd.prog (w.alloc (.cells #[.int .i64 0, .int .i64 0, .int .i64 0, .int .i64 0, .int .i64 0, .int .i64 0] 3)) = .ok (goInt 6) W ∧ Is W W.heap.size (some ⟨w.heap.size, 0, none⟩) 6 (saV ll s 6) ∧ IR W w.heap.size 6 0 0 ∧ Below w.heap.size w W := by
  have hrow := six_made w (.int .i64 0) 3
  have hlt : V < w.heap.size := hV.lt
  have hle := saV_len ll s 6
  have hs : (Tryd.prog.info? 3).map (·.size) = some 1 := by
    obtain ⟨i0, hi, hz0, hz1, hz2⟩ := info_parts info_int
    rw [hi]; simp [hz1]
  have hz := World.size_alloc w (.cells #[.int .i64 0, .int .i64 0, .int .i64 0, .int .i64 0, .int .i64 0, .int .i64 0] 3)
  have hb1 := new1 w (.cells #[.int .i64 0, .int .i64 0, .int .i64 0, .int .i64 0, .int .i64 0, .int .i64 0] 3)
  have hv1 := hV.alloc (.cells #[.int .i64 0, .int .i64 0, .int .i64 0, .int .i64 0, .int .i64 0, .int .i64 0] 3)
  generalize w.alloc _ = W1 at hrow hz hb1 hv1 ⊢
  have hsome : ∀ j, j < ((saV ll s 6).map (Value.int .i64)).length → (W1.cell? ⟨w.heap.size, 0 + j, none⟩).isSome = true := fun j hj => by
    rw [List.length_map, hle] at hj
    rw [Nat.zero_add, hrow.cell hj]; rfl
  have := run_copy_cells (P := Tryd.prog) W1 29 29 3 3 w.heap.size 0 6 6 ⟨V, 0, none⟩ 6 6 ((saV ll s 6).map (Value.int .i64)) Tryd.underlying29 hs (by rw [List.length_map, hle]; rfl)
    (fun j v hv => by
      have hj : j < 6 := by
        rcases Nat.lt_or_ge j 6 with h | h
        · exact h
        · rw [List.getElem?_eq_none (by rw [List.length_map, hle]; exact h)] at hv; cases hv
      rw [List.getElem?_map, saV_get hj] at hv
      simp only [Option.map_some, Option.some.injEq] at hv
      have hc := hv1.cell hj
      unfold fV at hc
      rw [if_pos hj, hv] at hc
      rw [← hc]
      refine congrArg W1.cell? ?_
      unfold Addr.add
      split <;> simp_all)
    hsome (fun j _ => hrow.frozen _) (fun u hu => by
      obtain ⟨y, _, rfl⟩ := List.mem_map.1 hu
      rfl)
  obtain ⟨f', hf'⟩ := row_cells ((saV ll s 6).map (Value.int .i64)) 0 W1 _ hrow
  refine ⟨W1.setCells w.heap.size 0 ((saV ll s 6).map (Value.int .i64)), ?_, ⟨hle, fun _ => ⟨w.heap.size, 0, rfl, by rw [size_cells]; omega, fun k x hx => ?_⟩⟩, ⟨f', hf', fun i h => absurd h (by omega)⟩, below_cells (Nat.le_refl _) _ _ hb1⟩
  · rw [this, List.length_map, hle]
    rfl
  · have hk := lt_get hx
    have := World.cell?_setCells_in w.heap.size ((saV ll s 6).map (Value.int .i64)) 0 W1 hsome k (by rw [List.length_map]; exact hk)
    rw [this]
    rw [List.getElem?_eq_getElem hk] at hx
    simp only [List.getElem_map, Option.some.injEq] at hx ⊢
    rw [hx]
/-- a row, its cells known, over a call -/
theorem row_below {w w' : World} {b n B : Nat} {t : TypeId} {f : Nat → Value} (h : w.rowIs b t n f) (hb : Below B w w') (hl : b < B) : w'.rowIs b t n f := h.of_block (hb.block b hl)
set_option maxRecDepth 100000 in
set_option maxHeartbeats 1600000 in
theorem impl_state {w : World} {B n c : Nat} {A : Option Addr} {ll : List (List Ver)} (s : Int) (hn : n ≤ 140737488355328) (h1 : Rs w B A n ll) (hB : B ≤ w.heap.size) :
    Calls Tryd.prog 7 #[.agg #[.slice A n c], .int .i64 s] w (AnsR (saL ll s) w) := by
  have H1 := Lib.hid h1
  have hln := h1.1
  clear h1
  go_enter Tryd.func7, Tryd.ntmps7
  go_wp2
  have hb0 := new3 w (.cells #[.slice A n c] 26) (.cells #[.int .i64 0, .int .i64 0, .int .i64 0, .int .i64 0, .int .i64 0, .int .i64 0] 52) (.cells #[.bool false, .bool false, .bool false, .bool false, .bool false, .bool false] 54)
  have z0 := up (.cells #[.bool false, .bool false, .bool false, .bool false, .bool false, .bool false] 54) (up (.cells #[.int .i64 0, .int .i64 0, .int .i64 0, .int .i64 0, .int .i64 0, .int .i64 0] 52) (one_cell w (.slice A n c) 26) (by simp)) (by simp; omega)
  have rv := (six_made (w.alloc (.cells #[.slice A n c] 26)) (.int .i64 0) 52).alloc (.cells #[.bool false, .bool false, .bool false, .bool false, .bool false, .bool false] 54)
  have ru := six_made ((w.alloc (.cells #[.slice A n c] 26)).alloc (.cells #[.int .i64 0, .int .i64 0, .int .i64 0, .int .i64 0, .int .i64 0, .int .i64 0] 52)) (.bool false) 54
  have hs0 : (((w.alloc (.cells #[.slice A n c] 26)).alloc (.cells #[.int .i64 0, .int .i64 0, .int .i64 0, .int .i64 0, .int .i64 0, .int .i64 0] 52)).alloc (.cells #[.bool false, .bool false, .bool false, .bool false, .bool false, .bool false] 54)).heap.size = w.heap.size + 3 := by simp
  simp only [World.size_alloc] at rv ru
  generalize ((w.alloc _).alloc _).alloc _ = w0 at z0 rv ru hb0 hs0 ⊢
  obtain ⟨V, hV⟩ : ∃ V, V = w.heap.size + 1 := ⟨_, rfl⟩
  rw [← hV] at rv ru
  simp only [← hV]
  have hV1 : w.heap.size < V := by omega
  have hV2 : V + 2 = w0.heap.size := by omega
  clear hV
  have HBw := Lib.hid hb0
  have Z0 := Lib.hid z0
  have RV : Hid (w0.rowIs V 52 6 (fV ll s 0)) := Lib.hid (rv.congr fun i _ => by simp [fV])
  have RU : Hid (w0.rowIs (V + 1) 54 6 (fU ll s 0)) := Lib.hid (ru.congr fun i _ => by simp [fU])
  clear hb0 z0 rv ru
  go_loopw [11] (fun i wr => ∃ k : Nat, k ≤ 6 ∧ i = .int .i64 k ∧ wr.rowIs V 52 6 (fV ll s k) ∧ wr.rowIs (V + 1) 54 6 (fU ll s k) ∧ wr.cell? ⟨w.heap.size, 0, none⟩ = some (.slice A n c) ∧ Below w.heap.size w wr ∧ V + 2 ≤ wr.heap.size) (fun i _ => 6 - (intOf i).toNat)
  case atStart => exact ⟨0, by omega, rfl, RV.out, RU.out, Z0.out, HBw.out, by omega⟩
  case round =>
    obtain ⟨k, hk, rfl, rv, ru, c0, hb, hs⟩ := hrel
    have HB := Lib.hid hb
    have RV := Lib.hid rv
    have RU := Lib.hid ru
    clear hb rv ru
    by_cases hlt : k < 6
    · have t : decide ((k : Int) < 6) = true := decide_eq_true (by omega)
      obtain ⟨x, hx⟩ : ∃ x, raV ll (k : Nat) s = x := ⟨_, rfl⟩
      obtain ⟨q, hq⟩ : ∃ q, raB ll (k : Nat) s = q := ⟨_, rfl⟩
      have HX := Lib.hid hx
      have HQ := Lib.hid hq
      clear hx hq
      go_wp2_with fail
      refine (impl_readat (k : Nat) s HX.out HQ.out hn (H1.out.below (below_le HB.out hB)) (by have := HB.out.size; omega)).mono ?_
      rintro e W1 ⟨rfl, hb1⟩
      have rv1 := row_below RV.out hb1 (by omega)
      have ru1 := row_below RU.out hb1 (by omega)
      have hs1 := hb1.size
      have hvl : V < W1.heap.size := by omega
      have hul : V + 1 < W1.heap.size := by omega
      have d0 := (hb1.cell (p := ⟨w.heap.size, 0, none⟩) (by simp; omega)).trans c0
      have HB1 := Lib.hid (HB.out.trans (hb1.mono (by omega)))
      have RV1 := Lib.hid rv1
      have RU1 := Lib.hid ru1
      have cv := rv1.cell hlt
      have cu := ru1.cell hlt
      have fv := rv1.frozen k
      have fu := ru1.frozen k
      clear hb1 c0 rv1 ru1
      obtain ⟨yv, hyv⟩ : ∃ y, fV ll s k k = y := ⟨_, rfl⟩
      obtain ⟨yu, hyu⟩ : ∃ y, fU ll s k k = y := ⟨_, rfl⟩
      rw [hyv] at cv
      rw [hyu] at cu
      go_wp2_with fail
      go_roundw
      case rel =>
        refine ⟨k + 1, by omega, by go_num, ?_, ?_, ?_, ?_, ?_⟩
        · exact World.rowIs.alloc (World.rowIs.setOther (by rw [← fV_step ll s k (x := x.b) (by rw [HX.out])]; exact RV1.out.set k _) (by simp) _) _
        · exact World.rowIs.alloc (by rw [← fU_step ll s k HQ.out]; exact World.rowIs.set (World.rowIs.setOther RU1.out (by simp) _) k _) _
        · exact up _ (set_other (set_other d0 (by simp; omega)) (by simp; omega)) (by simp; omega)
        · exact ((HB1.out.setCell (by simp; omega) _).setCell (by simp; omega) _).alloc (by simp; omega) _
        · simp; omega
      case measure => simp [intOf]; omega
    · have t : decide ((k : Int) < 6) = false := decide_eq_false (by omega)
      obtain rfl : k = 6 := by omega
      obtain ⟨q0, hq0⟩ : ∃ q, raB ll ((0 : Nat) : Int) s = q := ⟨_, rfl⟩
      have u0 : wr.cell? ⟨V + 1, 0, none⟩ = some (.bool (!q0)) := by have := RU.out.cell (i := 0) (by omega); rw [this]; unfold fU; rw [if_pos (by omega), hq0]
      obtain ⟨q1, hq1⟩ : ∃ q, raB ll ((1 : Nat) : Int) s = q := ⟨_, rfl⟩
      have u1 : wr.cell? ⟨V + 1, 1, none⟩ = some (.bool (!q1)) := by have := RU.out.cell (i := 1) (by omega); rw [this]; unfold fU; rw [if_pos (by omega), hq1]
      obtain ⟨q2, hq2⟩ : ∃ q, raB ll ((2 : Nat) : Int) s = q := ⟨_, rfl⟩
      have u2 : wr.cell? ⟨V + 1, 2, none⟩ = some (.bool (!q2)) := by have := RU.out.cell (i := 2) (by omega); rw [this]; unfold fU; rw [if_pos (by omega), hq2]
      obtain ⟨q3, hq3⟩ : ∃ q, raB ll ((3 : Nat) : Int) s = q := ⟨_, rfl⟩
      have u3 : wr.cell? ⟨V + 1, 3, none⟩ = some (.bool (!q3)) := by have := RU.out.cell (i := 3) (by omega); rw [this]; unfold fU; rw [if_pos (by omega), hq3]
      obtain ⟨q4, hq4⟩ : ∃ q, raB ll ((4 : Nat) : Int) s = q := ⟨_, rfl⟩
      have u4 : wr.cell? ⟨V + 1, 4, none⟩ = some (.bool (!q4)) := by have := RU.out.cell (i := 4) (by omega); rw [this]; unfold fU; rw [if_pos (by omega), hq4]
      obtain ⟨q5, hq5⟩ : ∃ q, raB ll ((5 : Nat) : Int) s = q := ⟨_, rfl⟩
      have u5 : wr.cell? ⟨V + 1, 5, none⟩ = some (.bool (!q5)) := by have := RU.out.cell (i := 5) (by omega); rw [this]; unfold fU; rw [if_pos (by omega), hq5]
      clear c0
      by_cases hall : RdOk ll s 6
      · have hyes := saL_yes hall
        have HY := Lib.hid hyes
        have e0 : q0 = true := by rw [← hq0]; exact hall 0 (by omega)
        rw [e0] at u0
        clear e0 hq0
        have e1 : q1 = true := by rw [← hq1]; exact hall 1 (by omega)
        rw [e1] at u1
        clear e1 hq1
        have e2 : q2 = true := by rw [← hq2]; exact hall 2 (by omega)
        rw [e2] at u2
        clear e2 hq2
        have e3 : q3 = true := by rw [← hq3]; exact hall 3 (by omega)
        rw [e3] at u3
        clear e3 hq3
        have e4 : q4 = true := by rw [← hq4]; exact hall 4 (by omega)
        rw [e4] at u4
        clear e4 hq4
        have e5 : q5 = true := by rw [← hq5]; exact hall 5 (by omega)
        rw [e5] at u5
        clear e5 hq5
        simp only [Bool.not_true] at u0 u1 u2 u3 u4 u5
        have hneq := fun W => neq6 false false false false false false W
        simp only [Bool.or_false] at hneq
        have hmk := make6 wr
        obtain ⟨Wf, hcp, his, hir, hbf⟩ := copy6 RV.out
        have HIR := Lib.hid hir
        have HIS := Lib.hid his
        have HBF := Lib.hid (HB.out.trans (hbf.mono HB.out.size))
        clear hyes hall his hbf hir
        go_wp2_with fail
        go_ret
        exact .inr ⟨_, rfl, HB.out.size, HIR.out, by rw [HY.out]; exact HIS.out, HBF.out⟩
      · have hno := saL_not hall
        have HNO := Lib.hid hno
        have hor : (!q0 || !q1 || !q2 || !q3 || !q4 || !q5) = true := by
          rcases h : (!q0 || !q1 || !q2 || !q3 || !q4 || !q5) with _ | _
          · exfalso
            simp only [Bool.or_eq_false_iff, Bool.not_eq_false'] at h
            obtain ⟨⟨⟨⟨⟨e0, e1⟩, e2⟩, e3⟩, e4⟩, e5⟩ := h
            refine hall fun i hi => ?_
            have : i = 0 ∨ i = 1 ∨ i = 2 ∨ i = 3 ∨ i = 4 ∨ i = 5 := by omega
            rcases this with rfl | rfl | rfl | rfl | rfl | rfl
            · rw [hq0, e0]
            · rw [hq1, e1]
            · rw [hq2, e2]
            · rw [hq3, e3]
            · rw [hq4, e4]
            · rw [hq5, e5]
          · rfl
        have hneq := fun W => neq6 (!q0) (!q1) (!q2) (!q3) (!q4) (!q5) W
        rw [hor] at hneq
        clear hno hall hor hq0 hq1 hq2 hq3 hq4 hq5
        go_wp2_with fail
        go_ret
        exact .inl ⟨rfl, HNO.out, HB.out⟩
end Go.Proofs.YtleeglgjaifejaaDoor.sa
