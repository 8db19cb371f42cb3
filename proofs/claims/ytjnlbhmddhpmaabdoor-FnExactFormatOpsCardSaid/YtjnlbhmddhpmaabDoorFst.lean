/- The program's and the model's FormatState: what each answers; the law's copy of a slice of integers; nothing that was there is written. -/
import Derived.Test.YtjnlbhmddhpmaabDoorInts
import Derived.Test.YtjnlbhmddhpmaabDoorFmtInt
import Derived.Test.YtjnlbhmddhpmaabDoorTabs
import Derived.Test.YtjnlbhmddhpmaabDoorDig
import Derived.Test.YtjnlbhmddhpmaabDoorJoin
import Derived.WalkKit
import Derived.ProofKit
import Derived.Below
import Derived.Lib.Hide
import Derived.LoopTactic
import Derived.Deep.QuietTactic
import Derived.BigQuiet
import Derived.Outline
import Derived.IntWalk
import Derived.Deep.OwnRows
import Derived.Laws.MakeOwn
import Derived.Laws.Entries
import Derived.Laws.AppendOwn
import Derived.Deep.AppendLies
namespace Go.Proofs.YtjnlbhmddhpmaabDoor.fst
open Go.ChangeShapes Go.WideShapes Go.ChangeAt Go.RowKit
open Go.Proofs.YtjnlbhmddhpmaabDoor.vers Go.Proofs.YtjnlbhmddhpmaabDoor.sl Go.Proofs.YtjnlbhmddhpmaabDoor.ch Go.Proofs.YtjnlbhmddhpmaabDoor.st Go.Proofs.YtjnlbhmddhpmaabDoor.ints Go.Proofs.YtjnlbhmddhpmaabDoor.fmtn Go.Proofs.YtjnlbhmddhpmaabDoor.tabs
open Go.Proofs.YtjnlbhmddhpmaabDoor.fmtInt (spec_fmt impl_fmt)
set_option linter.unusedVariables false
set_option linter.unusedSimpArgs false
abbrev Pow (w : World) : Prop := Lib.TabIs Tryd.prog w "internal/strconv.uint64pow10" .u64 Lib.pow10Tab
def vS (n : Int) : ByteArray := if n = -1 then ⟨#[45]⟩ else S (Lib.itoa n)
theorem vS_size {n : Int} (h0 : -999999999 ≤ n) (h1 : n ≤ 999999999) : (vS n).size ≤ 10 := by
  unfold vS
  split
  · show (#[45] : Array UInt8).size ≤ 10
    decide
  · rw [S_size]; exact Go.Proofs.YtjnlbhmddhpmaabDoor.dig.itoa_len _ h0 h1
theorem ret_str {a b : ByteArray} (h : a = b) : Ending.returned (.string a) = .returned (.string b) := by rw [h]
theorem str_val {a b : ByteArray} (h : a = b) : Value.string a = .string b := by rw [h]
theorem impl_val (n : Int) (w : World) (h0 : -9223372036854775808 ≤ n) (h1 : n ≤ 9223372036854775807) (htab : Pow w) :
    Calls Tryd.prog 47 #[.int .i64 n] w fun e w' => e = .returned (.string (vS n)) ∧ Below w.heap.size w w' := by
  have HC := Lib.hid (impl_fmt n w h0 h1 htab)
  by_cases hn : n = -1
  · have t : (n == -1) = true := by simpa using hn
    have HN := Lib.hid hn
    clear hn htab
    go_enter Tryd.func47, Tryd.ntmps47
    go_wp2_with fail
    go_ret
    exact ⟨ret_str (by unfold vS; rw [if_pos HN.out]), Below.refl _ _⟩
  · have t : (n == -1) = false := by simpa using hn
    have HN := Lib.hid hn
    clear hn htab
    go_enter Tryd.func47, Tryd.ntmps47
    go_wp2_with fail
    refine HC.out.mono ?_
    rintro e W ⟨rfl, hb⟩
    go_wp2_with fail
    go_ret
    exact ⟨ret_str (by unfold vS; rw [if_neg HN.out]), hb⟩
theorem spec_val (n : Int) (w : World) (h0 : -9223372036854775808 ≤ n) (h1 : n ≤ 9223372036854775807) :
    Calls Tryd.prog 28 #[.int .i64 n] w fun e w' => e = .returned (.string (vS n)) ∧ Below w.heap.size w w' := by
  have HC := Lib.hid (spec_fmt n w h0 h1)
  by_cases hn : n = -1
  · have t : (n == -1) = true := by simpa using hn
    have HN := Lib.hid hn
    clear hn
    go_enter Tryd.func28, Tryd.ntmps28
    go_wp2_with fail
    go_ret
    exact ⟨ret_str (by unfold vS; rw [if_pos HN.out]), Below.refl _ _⟩
  · have t : (n == -1) = false := by simpa using hn
    have HN := Lib.hid hn
    clear hn
    go_enter Tryd.func28, Tryd.ntmps28
    go_wp2_with fail
    refine HC.out.mono ?_
    rintro e W ⟨rfl, hb⟩
    go_wp2_with fail
    go_ret
    exact ⟨ret_str (by unfold vS; rw [if_neg HN.out]), hb⟩
def vl (x : Int) : List UInt8 := (vS x).data.toList
/-- the text of the first k values -/
def cat (l : List Int) (k : Nat) : ByteArray := S (Lib.join ((l.take k).map vl) [32])
theorem vS_S (x : Int) : vS x = S (vl x) := rfl
theorem S_app (a b : List UInt8) : S a ++ S b = S (a ++ b) := by
  apply ByteArray.ext
  show (S a ++ S b).data = _
  rw [ByteArray.data_append]
  show a.toArray ++ b.toArray = (a ++ b).toArray
  simp
theorem join_snoc (xs : List (List UInt8)) (x : List UInt8) (h : xs ≠ []) : Lib.join (xs ++ [x]) [32] = Lib.join xs [32] ++ ([32] ++ x) := by
  match xs, h with
  | y :: r, _ =>
    rw [List.cons_append, Lib.join_cons, Lib.join_cons]
    simp [Lib.joinTail]
theorem take_snoc {l : List Int} {k : Nat} {x : Int} (hx : l[k]? = some x) : l.take (k + 1) = l.take k ++ [x] := by
  have hl := lt_get hx
  rw [List.getElem?_eq_getElem hl] at hx
  rw [List.take_succ_eq_append_getElem hl, Option.some.inj hx]
theorem cat_zero (l : List Int) : cat l 0 = ⟨#[]⟩ := rfl
theorem cat_first {l : List Int} {x : Int} {k : Nat} (hk : ¬ 0 < k) (hx : l[k]? = some x) : cat l (k + 1) = cat l k ++ vS x := by
  obtain rfl : k = 0 := by omega
  unfold cat
  rw [take_snoc hx, vS_S, S_app]
  simp [Lib.join_one, Lib.join_nil]
theorem cat_next {l : List Int} {x : Int} {k : Nat} (hk : 0 < k) (hx : l[k]? = some x) : cat l (k + 1) = (cat l k ++ ⟨#[32]⟩) ++ vS x := by
  unfold cat
  have hne : (l.take k).map vl ≠ [] := by
    have hl := lt_get hx
    intro h
    have := congrArg List.length h
    simp only [List.length_map, List.length_take, List.length_nil] at this
    omega
  rw [take_snoc hx, List.map_append, List.map_cons, List.map_nil, join_snoc _ _ hne, vS_S, show (⟨#[32]⟩ : ByteArray) = S [32] from rfl, S_app, S_app, List.append_assoc]
theorem app_size (a b : ByteArray) : (a ++ b).size = a.size + b.size := ByteArray.size_append
/-- the first k values can be written -/
def OkI (l : List Int) (k : Nat) : Prop := ∀ (j : Nat) (x : Int), j < k → l[j]? = some x → In (-1) 99 x = true
theorem oki_zero (l : List Int) : OkI l 0 := fun j x h => absurd h (by omega)
theorem oki_step {l : List Int} {k : Nat} {x : Int} (h : OkI l k) (hx : l[k]? = some x) (hi : In (-1) 99 x = true) : OkI l (k + 1) := fun j y hj hy => by
  by_cases e : j = k
  · subst e; rw [hx] at hy; cases hy; exact hi
  · exact h j y (by omega) hy
theorem cat_size {l : List Int} : ∀ k, k ≤ l.length → OkI l k → (cat l k).size ≤ 11 * k
  | 0, _, _ => by rw [cat_zero]; decide
  | k + 1, hk, h => by
    have hx : l[k]? = some (l[k]'(by omega)) := List.getElem?_eq_getElem (by omega)
    have hi := in_yes (h k _ (by omega) hx)
    have hv := vS_size (n := l[k]'(by omega)) (by omega) (by omega)
    have ih := cat_size k (by omega) (fun j x hj hx => h j x (by omega) hx)
    by_cases h0 : 0 < k
    · rw [cat_next h0 hx, app_size, app_size]
      have : (⟨#[32]⟩ : ByteArray).size = 1 := rfl
      omega
    · rw [cat_first h0 hx, app_size]
      omega
noncomputable def fsT (l : List Int) : ByteArray := @ite _ (OkI l l.length) (Classical.propDecidable _) (cat l l.length) ⟨#[]⟩
theorem fsT_yes {l : List Int} {n : Nat} (hn : l.length = n) (h : OkI l n) : cat l n = fsT l := by
  subst hn
  unfold fsT
  exact (if_pos h).symm
theorem fsT_no {l : List Int} {k : Nat} {x : Int} (hx : l[k]? = some x) (hi : In (-1) 99 x = false) : (⟨#[]⟩ : ByteArray) = fsT l := by
  unfold fsT
  refine (if_neg fun h => ?_).symm
  have := h k x (lt_get hx) hx
  rw [hi] at this
  cases this
theorem str_info : (Tryd.prog.info? 9).map (fun i => (i.zero, i.size, i.bytes)) = some (some (.string ⟨#[]⟩), 1, 16) := by kernel_rfl
theorem make_strings (n : Nat) (hn : n ≤ 1048576) (w : World) : ∃ C : Array Value, C.size = n ∧
    (Instr.makeSlice 38 (.int .i64 0) (.int .i64 (n : Int))).run Tryd.prog w = .ok (.slice (some ⟨w.heap.size, 0, none⟩) 0 n) (w.alloc (.cells C 9)) := by
  obtain ⟨i0, hi, hz0, hz1, hz2⟩ := info_parts str_info
  have hr := run_make (P := Tryd.prog) w 38 9 i0 _ Tryd.underlying38 hi hz0 .i64 .i64 0 n (by omega) (by omega) (by rw [hz2]; omega) (by omega)
  simp only [Int.toNat_zero, Int.toNat_natCast, hz1] at hr
  exact ⟨_, by simp [size_madeCells], hr⟩
theorem cell_one (w : World) (v : Value) (t : TypeId) : ∀ (j : Nat) (u : Value), [v][j]? = some u → (w.alloc (.cells #[v] t)).cell? ((⟨w.heap.size, 0, none⟩ : Addr).add j) = some u := by
  intro j u hu
  match j, hu with
  | 0, hu =>
    simp at hu
    subst hu
    exact World.cell?_alloc_mark w _ t _ 0
theorem take_map_snoc {l : List Int} {k : Nat} {x : Int} (hx : l[k]? = some x) : (l.map fun x => Value.string (vS x)).take (k + 1) = (l.map fun x => Value.string (vS x)).take k ++ [Value.string (vS x)] := by
  rw [← List.map_take, ← List.map_take, take_snoc hx, List.map_append]
  rfl
theorem join_call {w : World} {base k : Nat} {v : Value} {l : List Int} (hk2 : k ≤ 1048576) (hl : l.length = k) (hs : (cat l k).size ≤ 11 * k) (h : w.ownsRow base 9 1 v k (l.map fun x => Value.string (vS x))) :
    Calls Tryd.prog 18 #[v, .string ⟨#[32]⟩] w fun e w' => e = .returned (.string (cat l k)) ∧ Below w.heap.size w w' := by
  rcases h.2 with ⟨rfl, rfl⟩ | ⟨g, cap, cur, rfl, hbg, hgg, hkc, hcm, hsz, htake⟩
  · exact (Tryd.strings_Join_none none 0 ⟨#[32]⟩ w).mono fun e w' ⟨he, hw⟩ => ⟨he, by rw [hw]; exact Below.refl _ _⟩
  have hlt : g < w.heap.size := by
    rcases Nat.lt_or_ge g w.heap.size with h' | h'
    · exact h'
    · rw [Array.getElem?_eq_none h'] at hgg; cases hgg
  have hcells : ∀ (j : Nat) (x : ByteArray), (l.map vS)[j]? = some x → w.cell? ⟨g, 0 + j, none⟩ = some (.string x) := by
    intro j x hx
    have := h.cells (g := g) rfl j (.string x) (by
      rw [List.getElem?_map] at hx ⊢
      cases hlj : l[j]? with
      | none => rw [hlj] at hx; cases hx
      | some y => rw [hlj] at hx; simp only [Option.map_some, Option.some.injEq] at hx ⊢; rw [hx])
    rw [← this]
    congr 1
    unfold Addr.add
    split <;> simp_all
  have hjl : Lib.join ((l.map vS).map (·.data.toList)) [32] = Lib.join ((l.take k).map vl) [32] := by
    rw [List.map_map, List.take_of_length_le (by omega)]
    rfl
  have hlen : (Lib.join ((l.map vS).map (·.data.toList)) [32]).length ≤ 140737488355328 := by
    rw [hjl]
    have : (cat l k).size = (Lib.join ((l.take k).map vl) [32]).length := S_size _
    omega
  have hj := Tryd.strings_Join g 0 cap (l.map vS) ⟨#[32]⟩ w hcells hlt (by simp; omega) (by simp; omega) hlen
  rw [List.length_map, hl] at hj
  refine hj.mono fun e w' hh => ⟨?_, hh.2⟩
  rw [hh.1]
  show Ending.returned (.string (S (Lib.join ((l.map vS).map (·.data.toList)) [32]))) = _
  rw [hjl]
  rfl
theorem own_below {w w' : World} {base n size : Nat} {e : TypeId} {v : Value} {xs : List Value} (h : w.ownsRow base e size v n xs) (hb : Below w.heap.size w w') : w'.ownsRow base e size v n xs :=
  h.kept (row := none) ⟨hb.os, hb.tape, hb.output, hb.size, fun i hi _ => hb.block i hi⟩ (by cases v.ownBlock <;> simp)
theorem one_str (s : ByteArray) : ∀ u ∈ [Value.string s], u.oneCell' = true := by
  intro u hu
  simp at hu
  subst hu
  rfl
/-! the law's copy -/
/-- block N is a row of n integers; the first k are those of l -/
def IRow (w : World) (N n : Nat) (l : List Int) (k : Nat) : Prop := w.rowIs N 3 n (fun i => if i < k then .int .i64 (l.getD i 0) else .int .i64 0)
theorem info_int : (Tryd.prog.info? 3).map (fun i => (i.zero, i.size, i.bytes)) = some (some (.int .i64 0), 1, 8) := by kernel_rfl
theorem make_ints (n : Nat) (hn : n ≤ 1048576) (w : World) :
    (Instr.makeSlice 59 (.int .i64 (n : Int)) (.int .i64 (n : Int))).run Tryd.prog w = .ok (.slice (some ⟨w.heap.size, 0, none⟩) n n) (w.alloc (.cells (madeCells #[.int .i64 0] n) 3)) := by
  obtain ⟨i0, hi, hz0, hz1, hz2⟩ := info_parts info_int
  have hr := run_make (P := Tryd.prog) w 59 3 i0 _ Tryd.underlying59 hi hz0 .i64 .i64 n n (by omega) (by omega) (by rw [hz2]; omega) (by omega)
  simp only [Int.toNat_natCast, hz1, Value.cells, Nat.mul_one] at hr
  exact hr
end Go.Proofs.YtjnlbhmddhpmaabDoor.fst
