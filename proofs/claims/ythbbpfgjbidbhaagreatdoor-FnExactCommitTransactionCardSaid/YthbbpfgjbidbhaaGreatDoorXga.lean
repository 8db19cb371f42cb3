/- Chapter 9, plain mathematics: the store and the transaction behind a commit are valid; what was installed; counts and earlier states. -/
import Derived.Test.YthbbpfgjbidbhaaGreatDoorOq
import Derived.Test.YthbbpfgjbidbhaaGreatDoorAo
import Derived.Test.YthbbpfgjbidbhaaGreatDoorRq
import Derived.Shelf.Abstract
import Derived.Lib.MinMax
import Derived.Deep.RegionHeld3
import Derived.Test.YthbbpfgjbidbhaaGreatDoorVal
import Derived.WalkKit
import Derived.ProofKit
import Derived.Below
import Derived.Lib.Hide
import Derived.LoopTactic
import Derived.Deep.QuietTactic
import Derived.BigQuiet
import Derived.Outline
import Derived.IntWalk
import Derived.Deep.AppendLies
import Derived.Test.YthbbpfgjbidbhaaGreatDoorFind
import Derived.Test.YthbbpfgjbidbhaaGreatDoorSt
import Derived.Deep.OwnRows
import Derived.Laws.MakeOwn
import Derived.Laws.Entries
import Derived.Laws.AppendOwn
import Derived.Laws.StructEq
import Derived.ChangeKeysEq
import Derived.Laws.IdiomCopy
/- Appends of versions onto a row of one's own; copies of a list of versions: the library's slices.Clone, the model's l3Copy. -/
namespace Go.Proofs.YthbbpfgjbidbhaaGreatDoor.av
open Go.ChangeShapes Go.WideShapes Go.ChangeAt Go.RowKit
open Go.Proofs.YthbbpfgjbidbhaaGreatDoor.sl Go.Proofs.YthbbpfgjbidbhaaGreatDoor.st Go.Proofs.YthbbpfgjbidbhaaGreatDoor.flat Go.Proofs.YthbbpfgjbidbhaaGreatDoor.os Go.Proofs.YthbbpfgjbidbhaaGreatDoor.oq
open Go.Proofs.YthbbpfgjbidbhaaGreatDoor.el2 (new1)
open Go.Proofs.YthbbpfgjbidbhaaGreatDoor.bx (own_more)
set_option linter.unusedVariables false
set_option linter.unusedSimpArgs false
set_option linter.constructorNameAsVariable false
theorem flat_app (l m : List Ver) : flat (l ++ m) = flat l ++ flat m := by simp [flat]
theorem flat_one : ∀ (l : List Ver), ∀ u ∈ flat l, u.oneCell' = true
  | [], u, hu => by simp [flat] at hu
  | x :: r, u, hu => by
    have e : flat (x :: r) = [.int .i64 x.a, .int .i64 x.b, .int .i64 x.c, .int .i64 x.d, .int .i64 x.e] ++ flat r := by simp [flat]
    rw [e] at hu
    rcases List.mem_append.1 hu with hu | hu
    · exact one5 x u hu
    · exact flat_one r u hu
theorem cells_at {w : World} {b : Nat} : ∀ (l : List Ver) (o : Nat), (∀ k x, l[k]? = some x → At w b (o + k * 5) x) → ∀ (j : Nat) (u : Value), (flat l)[j]? = some u → w.cell? ⟨b, o + j, none⟩ = some u
  | [], o, h, j, u, hu => by simp [flat] at hu
  | x :: r, o, h, j, u, hu => by
    have e : flat (x :: r) = [.int .i64 x.a, .int .i64 x.b, .int .i64 x.c, .int .i64 x.d, .int .i64 x.e] ++ flat r := by simp [flat]
    rw [e] at hu
    rcases Nat.lt_or_ge j 5 with hj | hj
    · rw [List.getElem?_append_left (by simpa using hj)] at hu
      obtain ⟨a0, a1, a2, a3, a4⟩ := h 0 x rfl
      simp only [Nat.zero_mul, Nat.add_zero] at a0 a1 a2 a3 a4
      match j, hj with
      | 0, _ => injection hu with hu; subst hu; exact a0
      | 1, _ => injection hu with hu; subst hu; exact a1
      | 2, _ => injection hu with hu; subst hu; exact a2
      | 3, _ => injection hu with hu; subst hu; exact a3
      | 4, _ => injection hu with hu; subst hu; exact a4
    · rw [List.getElem?_append_right (by simpa using hj)] at hu
      have := cells_at r (o + 5) (fun k y hy => by
        have := h (k + 1) y (by simpa using hy)
        rw [show o + 5 + k * 5 = o + (k + 1) * 5 by omega]
        exact this) (j - 5) u (by simpa using hu)
      rw [show o + j = o + 5 + (j - 5) by omega]
      exact this
theorem add_off (b o j : Nat) : (⟨b, o, none⟩ : Addr).add j = ⟨b, o + j, none⟩ := by unfold Addr.add; split <;> simp_all
/-- an append of the versions that a slice reads as, onto a row of one's own -/
theorem run_append_v (w : World) {v : Value} {k n c B : Nat} {A : Option Addr} {xs l : List Ver} (hown : w.ownsRow 0 81 5 v k (flat xs)) (hv : Vs w B A n l) (hk : k + n ≤ 2097152) :
    ∃ v' w', (Builtin.append_ #[73, 73] 73 #[v, .slice A n c]).run Tryz.prog w = .ok v' w' ∧ w'.ownsRow 0 81 5 v' (k + n) (flat (xs ++ l)) ∧ w.grownBy w' v.ownBlock ∧ ∀ q, v'.ownBlock = some q → v.ownBlock = some q ∨ w.heap.size ≤ q := by
  obtain ⟨i, hi, hz, hs, hb⟩ := info_parts ver_info
  have hlen := hv.1
  rcases Nat.eq_zero_or_pos n with h0 | h0
  · subst h0
    obtain rfl : l = [] := List.eq_nil_of_length_eq_zero hlen
    refine ⟨v, w, ?_, by simpa using hown, ⟨rfl, rfl, rfl, Nat.le_refl _, fun _ _ _ => rfl⟩, fun q hq => .inl hq⟩
    cases A with
    | none =>
      rcases hown.2 with ⟨rfl, rfl⟩ | ⟨g, cap, cur, rfl, _, _, hnc, _⟩
      · simp [Builtin.append_, run_underlying Tryz.underlying73, sizeOf, typeInfo, hi, Builtin.lenOf, Builtin.firstCells]
      · simp [Builtin.append_, run_underlying Tryz.underlying73, sizeOf, typeInfo, hi, Builtin.lenOf, Builtin.firstCells, storeCells, hnc]
    | some a =>
      have hf := run_firstCells_some (P := Tryz.prog) w i.size 0 a 0 c [] (by simp) (by simp)
      rcases hown.2 with ⟨rfl, rfl⟩ | ⟨g, cap, cur, rfl, _, _, hnc, _⟩
      · simp [Builtin.append_, run_underlying Tryz.underlying73, sizeOf, typeInfo, hi, Builtin.lenOf, hf]
      · simp [Builtin.append_, run_underlying Tryz.underlying73, sizeOf, typeInfo, hi, Builtin.lenOf, hf, storeCells, hnc]
  · obtain ⟨b, o, rfl, _, hx⟩ := hv.2 h0
    have hr := run_append_at (P := Tryz.prog) w 73 73 81 i _ 5 40 Tryz.underlying73 hi hz hs hb rfl (by decide) v k (flat xs) hown ⟨b, o, none⟩ n c (flat l) (by rw [flat_len, hlen]) (fun j u hu => by rw [add_off]; exact cells_at l o hx j u hu) (flat_one l) (by unfold maxLen; omega) (by omega)
    rw [← flat_app] at hr
    exact hr
/-- .. of one version that lies in a block of its own -/
theorem one_vs {w : World} {q : Nat} {m : Ver} (h : At w q 0 m) : Vs w (q + 1) (some ⟨q, 0, none⟩) 1 [m] := ⟨rfl, fun _ => ⟨q, 0, rfl, by omega, fun k z hz => by
  match k, hz with
  | 0, hz => injection hz with hz; subst hz; exact h⟩⟩
theorem own_empty (w : World) : (w.alloc (.cells #[] 81)).ownsRow 0 81 5 (.slice (some ⟨w.heap.size, 0, none⟩) 0 0) 0 (flat []) := by
  have := World.ownsRow_made w (base := 0) (e := 81) (size := 5) #[] 0 (Nat.zero_le _) (by unfold maxLen; omega) rfl
  simpa [flat] using this
/-- an append of a list onto an empty row just laid -/
theorem app_empty (w : World) {A : Option Addr} {n c B : Nat} {l : List Ver} (hv : Vs w B A n l) (hn : n ≤ 2097152) (hB : B ≤ w.heap.size) :
    ∃ A' c' w', (Builtin.append_ #[73, 73] 73 #[.slice (some ⟨w.heap.size, 0, none⟩) 0 0, .slice A n c]).run Tryz.prog (w.alloc (.cells #[] 81)) = .ok (.slice A' n c') w' ∧ w'.ownsRow w.heap.size 81 5 (.slice A' n c') n (flat l) ∧ Below w.heap.size w w' := by
  obtain ⟨v', w', hr, ho, hg, hq⟩ := run_append_v (w.alloc (.cells #[] 81)) (own_empty w) (hv.below (below_le (new1 w _) hB)) (c := c) (by omega)
  have hb1 := (new1 w (.cells #[] 81)).grown hg (by simp) (fun k hk => by simp [Value.ownBlock] at hk; omega)
  rw [Nat.zero_add, List.nil_append] at ho
  obtain ⟨A', c', rfl, _⟩ := own_vs ho hv.1
  refine ⟨A', c', w', hr, own_lo ho fun q e => ?_, hb1⟩
  rcases hq q e with h | h
  · simp [Value.ownBlock] at h; omega
  · simp at h; omega
/-- a copy of a list of versions in memory of its own -/
def CopV (n : Nat) (l : List Ver) (w : World) (e : Ending) (w' : World) : Prop :=
  ∃ A' c', e = .returned (.slice A' n c') ∧ w'.ownsRow w.heap.size 81 5 (.slice A' n c') n (flat l) ∧ Below w.heap.size w w'
set_option maxRecDepth 100000 in
set_option maxHeartbeats 800000 in
theorem clone_v {w : World} {B n c : Nat} {A : Option Addr} {l : List Ver} (hn : n ≤ 2097152) (h1 : Vs w B A n l) (hB : B ≤ w.heap.size) :
    Calls Tryz.prog 52 #[.slice A n c] w (CopV n l w) := by
  have H1 := Lib.hid h1
  clear h1
  have q22 : ∀ (w : World) (a : Option Addr) (n c : Nat), (binOp .eql 73 (.slice a n c) (.slice none 0 0)).run Tryz.prog w = .ok (.bool a.isNone) w := fun w a n c => Go.run_eql_slice_nil w _ _ a n c Tryz.underlying73
  go_enter Tryz.func52, Tryz.ntmps52
  cases A with
  | none =>
    go_wp2_with fail
    go_ret
    obtain rfl : n = 0 := by
      rcases Nat.eq_zero_or_pos n with h | h
      · exact h
      · obtain ⟨_, _, e, _⟩ := H1.out.2 h; cases e
    obtain rfl : l = [] := List.eq_nil_of_length_eq_zero H1.out.1
    exact ⟨_, _, rfl, World.ownsRow_nil _ _ _ _, Below.refl _ _⟩
  | some a =>
    obtain ⟨A', c', w', hr, ho, hb1⟩ := app_empty (c := c) w H1.out hn hB
    obtain ⟨ab, ao, asp⟩ := a
    go_wp2_with (at_builtin; refine Lib.wpList_append_run _ rfl _ _ 73 73 rfl _ _ rfl rfl _ _ hr ?_)
    go_ret
    exact ⟨_, _, rfl, ho, hb1⟩
set_option maxRecDepth 100000 in
set_option maxHeartbeats 800000 in
theorem spec_copyv {w : World} {B n c : Nat} {A : Option Addr} {l : List Ver} (hn : n ≤ 2097152) (h1 : Vs w B A n l) (hB : B ≤ w.heap.size) :
    Calls Tryz.prog 47 #[.slice A n c] w (CopV n l w) := by
  obtain ⟨A', c', w', hr, ho, hb1⟩ := app_empty (c := c) w h1 hn hB
  go_enter Tryz.func47, Tryz.ntmps47
  go_wp2_with (at_builtin; refine Lib.wpList_append_run _ rfl _ _ 73 73 rfl _ _ rfl rfl _ _ hr ?_)
  go_ret
  exact ⟨_, _, rfl, ho, hb1⟩
end Go.Proofs.YthbbpfgjbidbhaaGreatDoor.av
/- The program's copyStore: a store of the call's own that reads as the same list of lists. -/
namespace Go.Proofs.YthbbpfgjbidbhaaGreatDoor.cs
open Go.ChangeShapes Go.WideShapes Go.ChangeAt Go.RowKit
open Go.Proofs.YthbbpfgjbidbhaaGreatDoor.sl Go.Proofs.YthbbpfgjbidbhaaGreatDoor.st Go.Proofs.YthbbpfgjbidbhaaGreatDoor.flat Go.Proofs.YthbbpfgjbidbhaaGreatDoor.os Go.Proofs.YthbbpfgjbidbhaaGreatDoor.oq Go.Proofs.YthbbpfgjbidbhaaGreatDoor.av
open Go.Proofs.YthbbpfgjbidbhaaGreatDoor.el2 (new1)
open Go.Proofs.YthbbpfgjbidbhaaGreatDoor.vers (new2)
open Go.Proofs.YthbbpfgjbidbhaaGreatDoor.bx (own_more)
set_option linter.unusedVariables false
set_option linter.unusedSimpArgs false
set_option linter.constructorNameAsVariable false
theorem grown_set (w : World) (p : Addr) (u : Value) : w.grownBy (w.setCell p u) (some p.block) := ⟨rfl, rfl, rfl, by simp [World.setCell], fun k _ hk => Below.heap_setCell _ _ _ _ (fun e => hk (by rw [e]))⟩
/-- what a copy of a store hands back -/
def CopS (N : Nat) (C : List (List Ver)) (w : World) (e : Ending) (w' : World) : Prop :=
  ∃ A c, e = .returned (.agg #[.slice A N c]) ∧ OS w' w.heap.size (.slice A N c) N C ∧ Below w.heap.size w w'
theorem toList_made (n : Nat) : (madeCells #[.slice none 0 0] n).toList = List.replicate n (.slice none 0 0) := by
  apply List.ext_getElem
  · simp [madeCells]
  · intro i h1 h2
    simp [madeCells, Nat.mod_one]
/-- a row of nil rows, just made, is a store of empty chains -/
theorem os_made (w : World) {lo n : Nat} (hlo : lo ≤ w.heap.size) (hn : n ≤ 2097152) : OS (w.alloc (.cells (madeCells #[.slice none 0 0] n) 73)) lo (.slice (some ⟨w.heap.size, 0, none⟩) n n) n (List.replicate n []) := by
  have ho := World.ownsRow_lit (base := lo) (e := 73) (size := 1) w (madeCells #[.slice none 0 0] n) n hlo (by unfold maxLen; omega) (by simp [size_madeCells])
  rw [toList_made] at ho
  refine ⟨_, ho, by simp, fun i u hu => ?_, fun i j u u' _ hu _ q hq => ?_⟩
  · rw [List.getElem?_replicate] at hu
    split at hu
    · rename_i hi
      injection hu with hu
      subst hu
      exact ⟨[], by rw [List.getElem?_replicate, if_pos hi], World.ownsRow_nil _ _ _ _⟩
    · cases hu
  · rw [List.getElem?_replicate] at hu
    split at hu
    · injection hu with hu
      subst hu
      cases hq
    · cases hu
theorem take_put {C : List (List Ver)} {k n : Nat} {l : List Ver} (hC : C.length = n) (hl : C[k]? = some l) : (C.take k ++ List.replicate (n - k) []).set k l = C.take (k + 1) ++ List.replicate (n - (k + 1)) [] := by
  have hk := Go.Proofs.YthbbpfgjbidbhaaGreatDoor.os.lt_of_some hl
  rw [List.set_append_right _ _ (by rw [List.length_take]; omega), List.length_take, Nat.min_eq_left (by omega), Nat.sub_self, show n - k = (n - (k + 1)) + 1 by omega, List.replicate_succ, List.set_cons_zero, List.take_add_one, hl]
  simp
set_option maxRecDepth 100000 in
set_option maxHeartbeats 1600000 in
theorem impl_copys {w : World} {B N cN : Nat} {D : Option Addr} {C : List (List Ver)} (hN : N ≤ 2097152) (hC : ∀ l ∈ C, l.length ≤ 2097152) (h3 : Rs w B D N C) (hB : B ≤ w.heap.size) :
    Calls Tryz.prog 27 #[.agg #[.slice D N cN]] w (CopS N C w) := by
  have H3 := Lib.hid h3
  have hCN := h3.1
  have HC := Lib.hid hC
  have hmk := make_rows N hN
  clear h3 hC
  go_enter Tryz.func27, Tryz.ntmps27
  go_wp2_with fail
  have z0 := up (.cells #[.slice none 0 0] 33) (one_cell w (.slice D N cN) 33) (by simp)
  have z1 := one_cell (w.alloc (.cells #[.slice D N cN] 33)) (.slice none 0 0) 33
  have f1 := one_free (w.alloc (.cells #[.slice D N cN] 33)) (.slice none 0 0) 33
  have hb0 := new2 w (.cells #[.slice D N cN] 33) (.cells #[.slice none 0 0] 33)
  have hs0 : ((w.alloc (.cells #[.slice D N cN] 33)).alloc (.cells #[.slice none 0 0] 33)).heap.size = w.heap.size + 1 + 1 := by simp
  simp only [World.size_alloc] at z1 f1
  generalize (w.alloc _).alloc _ = w0 at z0 z1 f1 hb0 hs0 ⊢
  have ho0 := os_made w0 (lo := w.heap.size + 1 + 1) (n := N) (by omega) hN
  have y0 := up (.cells (madeCells #[.slice none 0 0] N) 73) z0 (by simp; omega)
  have y1 := up (.cells (madeCells #[.slice none 0 0] N) 73) z1 (by simp; omega)
  have g1 := free_up (.cells (madeCells #[.slice none 0 0] N) 73) f1 (by simp; omega)
  have hb1 := hb0.trans ((new1 w0 (.cells (madeCells #[.slice none 0 0] N) 73)).mono (by omega))
  have hs1 : (w0.alloc (.cells (madeCells #[.slice none 0 0] N) 73)).heap.size = w.heap.size + 3 := by simp; omega
  rw [hs0] at ho0
  generalize w0.alloc _ = w1 at ho0 y0 y1 g1 hb1 hs1 ⊢
  clear z0 z1 f1 hb0 hmk
  have O0 := Lib.hid ho0
  clear ho0
  go_loopw [13] (fun i wr => ∃ k : Nat, k ≤ N ∧ i = .int .i64 k ∧ OS wr (w.heap.size + 1 + 1) (.slice (some ⟨w.heap.size + 1 + 1, 0, none⟩) N N) N (C.take k ++ List.replicate (N - k) []) ∧ wr.cell? ⟨w.heap.size, 0, none⟩ = some (.slice D N cN) ∧ wr.cell? ⟨w.heap.size + 1, 0, none⟩ = some (.slice none 0 0) ∧ wr.frozen? ⟨w.heap.size + 1, 0, none⟩ = false ∧ Below w.heap.size w wr ∧ w.heap.size + 3 ≤ wr.heap.size) (fun i _ => N - (intOf i).toNat)
  case atStart => exact ⟨0, by omega, rfl, by simpa using O0.out, y0, y1, g1, hb1, by omega⟩
  case round =>
    obtain ⟨k, hk, rfl, ho, c0, c1, fz, hb, hsz⟩ := hrel
    have O := Lib.hid ho
    have HB := Lib.hid hb
    clear y0 y1 g1 hb1 hs1 O0 ho hb
    by_cases hlt : k < N
    · have t : decide ((k : Int) < (N : Int)) = true := decide_eq_true (by omega)
      obtain ⟨b2, o2, l, A', n', c', rfl, hb2, hl, d0, hn', hv⟩ := (H3.out.below (below_le HB.out hB)).at_ hlt
      have HL := Lib.hid hl
      have HV := Lib.hid hv
      have hl2 : n' ≤ 2097152 := by have := HC.out l (List.mem_of_getElem? hl); rw [hv.1] at this; exact this
      have C0 := Lib.hid c0
      have C1 := Lib.hid c1
      have FZ := Lib.hid fz
      clear hl hv
      go_wp2_with fail
      refine (clone_v hl2 HV.out (by omega)).mono ?_
      rintro e W1 ⟨A9, c9, rfl, hr, hb9⟩
      have hs9 := hb9.size
      obtain ⟨g9, cap9, A8, m8, c8, l8, he8, hl8, hg8, hC8, hm8, hc8, hf8, hr8⟩ := O.out.at_ hlt
      injection he8 with he8 _ he9
      injection he8 with he8
      injection he8 with he8
      subst he8 he9
      have hput := OS.put O.out hlt hc8 (w' := W1) (row := none) ⟨hb9.os, hb9.tape, hb9.output, hb9.size, fun k hk _ => hb9.block k hk⟩ (.inl rfl) (u' := .slice A9 n' c9) (l' := l) (by rw [HV.out.1]; exact own_more hr (by omega)) (fun q hq => .inr (hr.lt q hq).1)
      rw [take_put hCN HL.out] at hput
      have P9 := Lib.hid hput
      have d8 := (hb9.cell (p := ⟨w.heap.size + 1 + 1, k, none⟩) (by simp; omega)).trans hc8
      have e8 := (hb9.frozen (p := ⟨w.heap.size + 1 + 1, k, none⟩) (by simp; omega)).trans hf8
      have D0 := Lib.hid (set_other (a := ⟨w.heap.size + 1 + 1, k, none⟩) (v := .slice A9 n' c9) ((hb9.cell (p := ⟨w.heap.size, 0, none⟩) (by simp; omega)).trans C0.out) (show w.heap.size + 1 + 1 ≠ w.heap.size by omega))
      have D1 := Lib.hid (set_other (a := ⟨w.heap.size + 1 + 1, k, none⟩) (v := .slice A9 n' c9) ((hb9.cell (p := ⟨w.heap.size + 1, 0, none⟩) (by simp; omega)).trans C1.out) (show w.heap.size + 1 + 1 ≠ w.heap.size + 1 by omega))
      have E1 := Lib.hid (set_free (a := ⟨w.heap.size + 1 + 1, k, none⟩) (v := .slice A9 n' c9) ((hb9.frozen (p := ⟨w.heap.size + 1, 0, none⟩) (by simp; omega)).trans FZ.out))
      have B9 := Lib.hid ((HB.out.trans (hb9.mono (by omega))).setCell (p := ⟨w.heap.size + 1 + 1, k, none⟩) (show w.heap.size ≤ w.heap.size + 1 + 1 by omega) (.slice A9 n' c9))
      have S9 : w.heap.size + 3 ≤ (W1.setCell ⟨w.heap.size + 1 + 1, k, none⟩ (.slice A9 n' c9)).heap.size := by simp [World.setCell]; omega
      clear hput hr hb9 hr8 hc8 hf8 hl8 hC8 hm8 hg8 c0 c1 fz
      go_wp2_with fail
      go_roundw
      case rel => exact ⟨k + 1, by omega, by go_num, P9.out, D0.out, D1.out, E1.out, B9.out, S9⟩
      case measure => simp [intOf]; omega
    · have t : decide ((k : Int) < (N : Int)) = false := decide_eq_false (by omega)
      obtain rfl : N = k := by omega
      go_wp2_with fail
      have hb := HB.out.setCell (p := ⟨w.heap.size + 1, 0, none⟩) (by simp) (.slice (some ⟨w.heap.size + 1 + 1, 0, none⟩) N N)
      have e1 := set_same (v := .slice (some ⟨w.heap.size + 1 + 1, 0, none⟩) N N) c1
      have ho := O.out.grown (row := some (w.heap.size + 1)) (w' := wr.setCell ⟨w.heap.size + 1, 0, none⟩ (.slice (some ⟨w.heap.size + 1 + 1, 0, none⟩) N N)) (grown_set _ _ _) (fun q hq => by injection hq with hq; omega)
      generalize wr.setCell _ _ = Wf at hb e1 ho ⊢
      refine bodyPost_ret (v := .agg #[.slice (some ⟨w.heap.size + 1 + 1, 0, none⟩) N N]) (by simp [results, Tryz.results27, go_sem, e1]) rfl ⟨_, _, rfl, ?_, hb⟩
      rw [Nat.sub_self, List.replicate_zero, List.append_nil, List.take_of_length_le (by omega)] at ho
      exact ho.more (by omega)
end Go.Proofs.YthbbpfgjbidbhaaGreatDoor.cs
/- Chapter 6 of the program: the version that a mark names, slices.IndexFunc and ContainsFunc at marks, ReadsExist: what each answers; nothing that was there is written. -/
namespace Go.Proofs.YthbbpfgjbidbhaaGreatDoor.ri
open Go.ChangeShapes Go.WideShapes Go.ChangeAt Go.RowKit
open Go.Proofs.YthbbpfgjbidbhaaGreatDoor.el2 Go.Proofs.YthbbpfgjbidbhaaGreatDoor.tx Go.Proofs.YthbbpfgjbidbhaaGreatDoor.seq Go.Proofs.YthbbpfgjbidbhaaGreatDoor.tv Go.Proofs.YthbbpfgjbidbhaaGreatDoor.tf Go.Proofs.YthbbpfgjbidbhaaGreatDoor.rx
open Go.Proofs.YthbbpfgjbidbhaaGreatDoor.vers (new2)
open Go.Proofs.YthbbpfgjbidbhaaGreatDoor.sl (Ver)
open Go.Proofs.YthbbpfgjbidbhaaGreatDoor.st (Rs)
open Go.Proofs.YthbbpfgjbidbhaaGreatDoor.val (stB)
open Go.Proofs.YthbbpfgjbidbhaaGreatDoor.find (fndI)
set_option linter.unusedVariables false
set_option linter.unusedSimpArgs false
/-- what versionOf hands back -/
def VO (C : List (List Ver)) (y : E2) (B : Nat) (W : World) (e : Ending) : Prop :=
  (hasV C y = false ∧ e = .returned (.pointer none)) ∨ (hasV C y = true ∧ ∃ b o, e = .returned (.pointer (some ⟨b, o, none⟩)) ∧ b < B ∧ Go.Proofs.YthbbpfgjbidbhaaGreatDoor.sl.At W b o (verOf C y))
set_option maxRecDepth 100000 in
set_option maxHeartbeats 3200000 in
theorem impl_vof {w : World} {B N cN : Nat} {D : Option Addr} {C : List (List Ver)} (y : E2) (sb : Nat) (hsb : sb < w.heap.size) (hs : w.cell? ⟨sb, 0, none⟩ = some (.slice D N cN)) (hy : 0 ≤ y.a) (hy2 : y.a < (N : Int)) (h3 : Rs w B D N C) (hB : B ≤ w.heap.size) :
    Calls Tryz.prog 62 #[.pointer (some ⟨sb, 0, none⟩), .agg #[.int .i64 y.a, .int .i64 y.b]] w fun e w' => VO C y B w' e ∧ Below w.heap.size w w' := by
  have s4 : y.a.toNat < N := by omega
  obtain ⟨b2, o2, l, A', n', c', rfl, hb2, hl, d0, hn', hv⟩ := h3.at_ s4
  have HL := Lib.hid hl
  clear h3 hl
  generalize hz : fndI y.b l 0 = z
  have HZ := Lib.hid hz
  clear hz
  go_enter Tryz.func62, Tryz.ntmps62
  go_wp2_with fail
  have hb := new1 w (.cells #[.int .i64 y.a, .int .i64 y.b] 78)
  have mb := boxed w y 78
  have hs' := st.up (.cells #[.int .i64 y.a, .int .i64 y.b] 78) hs hsb
  have d0' := st.up (.cells #[.int .i64 y.a, .int .i64 y.b] 78) d0 (show b2 < w.heap.size by omega)
  have hv' := hv.below (below_le hb hB)
  clear hs d0 hv
  generalize w.alloc _ = W0 at hb mb hs' d0' hv' ⊢
  have HV := Lib.hid hv'
  have HB := Lib.hid hb
  obtain ⟨m0, m1⟩ := atFlat mb
  clear hv' hb mb
  go_quiet (fail)
  go_wp2_with fail
  refine (find.impl_find y.b hn' (vsd HV.out _) (Nat.le_trans hB HB.out.size)).mono ?_
  rintro e W1 ⟨rfl, hb1⟩
  rw [HZ.out]
  have HB1 : Hid (Below w.heap.size w W1) := Lib.hid ((Off1 HB.out _).trans (hb1.mono HB.out.size))
  have HV1 := Lib.hid ((vsd HV.out _).below (below_le hb1 (Nat.le_trans hB HB.out.size)))
  clear hb1 m0 m1 hs' d0'
  by_cases hzz : 0 ≤ z
  · have t : decide (z < 0) = false := decide_eq_false (by omega)
    obtain ⟨j, hj, hjl⟩ := fnd_lt (c := y.b) (l := l) (by rw [HZ.out]; exact hzz)
    have hj2 : z = (j : Int) := by rw [← HZ.out]; exact hj
    subst hj2
    have hln := HV.out.1
    obtain ⟨b, o, v, rfl, hbB, hx, a0, a1, a2, a3, a4⟩ := HV1.out.at_ (k := j) (by omega)
    have hjn : (j : Int) < (n' : Int) := by omega
    have HA : Hid (Go.Proofs.YthbbpfgjbidbhaaGreatDoor.sl.At W1 b (o + j * 5) v) := Lib.hid ⟨a0, a1, a2, a3, a4⟩
    have HX := Lib.hid hx
    clear a0 a1 a2 a3 a4 hx hln hjl
    go_wp2_with fail
    go_ret
    exact ⟨Or.inr ⟨has_at HL.out HZ.out (decide_eq_true hzz), b, o + j * 5, rfl, hbB, by rw [ver_at HL.out HZ.out HX.out]; exact HA.out⟩, HB1.out⟩
  · have t : decide (z < 0) = true := decide_eq_true (by omega)
    go_wp2_with fail
    go_ret
    exact ⟨Or.inl ⟨has_at HL.out HZ.out (decide_eq_false (by omega)), rfl⟩, HB1.out⟩
set_option maxHeartbeats 1600000 in
theorem impl_lacks {w : World} {B N cN : Nat} {D : Option Addr} {C : List (List Ver)} (y : E2) (sb : Nat) (hsb : sb < w.heap.size) (hs : w.cell? ⟨sb, 0, none⟩ = some (.slice D N cN)) (hy : 0 ≤ y.a) (hy2 : y.a < (N : Int)) (h3 : Rs w B D N C) (hB : B ≤ w.heap.size) :
    Calls Tryz.prog 78 #[.pointer (some ⟨sb, 0, none⟩), .agg #[.int .i64 y.a, .int .i64 y.b]] w fun e w' => e = .returned (.bool (!hasV C y)) ∧ Below w.heap.size w w' := by
  have H3 := Lib.hid h3
  clear h3
  go_enter Tryz.func78, Tryz.ntmps78
  go_wp2_with fail
  have hb := new1 w (.cells #[.int .i64 y.a, .int .i64 y.b] 78)
  have mb := boxed w y 78
  have hs' := st.up (.cells #[.int .i64 y.a, .int .i64 y.b] 78) hs hsb
  clear hs
  generalize w.alloc _ = W0 at hb mb hs' ⊢
  have HB := Lib.hid hb
  obtain ⟨m0, m1⟩ := atFlat mb
  have hsz := hb.size
  clear hb mb
  go_wp2_with fail
  refine (impl_vof y sb (by omega) hs' hy hy2 (H3.out.below (below_le HB.out hB)) (by omega)).mono ?_
  rintro e W1 ⟨⟨hh, rfl⟩ | ⟨hh, b, o, rfl, hbB, hA⟩, hb1⟩
  · have HH := Lib.hid hh
    have HB1 : Hid (Below w.heap.size w W1) := Lib.hid (HB.out.trans (hb1.mono HB.out.size))
    clear hb1 hh
    go_wp2_with fail
    go_ret
    exact ⟨by rw [HH.out]; rfl, HB1.out⟩
  · have HH := Lib.hid hh
    have HB1 : Hid (Below w.heap.size w W1) := Lib.hid (HB.out.trans (hb1.mono HB.out.size))
    clear hb1 hA hh
    go_wp2_with fail
    go_ret
    exact ⟨by rw [HH.out]; rfl, HB1.out⟩
theorem any_hit {p : E2 → Bool} {l : List E2} {k : Nat} {y : E2} (hx : l[k]? = some y) (h : p y = true) : l.any p = true := by
  rw [List.any_eq_true]
  exact ⟨y, List.mem_of_getElem? hx, h⟩
theorem any_none {p : E2 → Bool} {l : List E2} {n : Nat} (hn : l.length = n) (h : ∀ (j : Nat) (y : E2), j < n → l[j]? = some y → (!p y) = true) : l.any p = false := by
  have h2 := all_good hn h
  rw [List.all_eq_true] at h2
  rw [List.any_eq_false]
  intro x hx
  have := h2 x hx
  simpa using this
set_option maxRecDepth 100000 in
set_option maxHeartbeats 1600000 in
theorem lib_indexf {w : World} {B n c : Nat} {A : Option Addr} {l : List E2} (g : Nat) (sb : Nat) (p : E2 → Bool) (eg : ∀ args w, (callFunc g args).run Tryz.prog w = .ok (.enter g args) w)
    (hp : ∀ (W : World) (k : Nat) (y : E2), l[k]? = some y → Below w.heap.size w W → Calls Tryz.prog g #[.pointer (some ⟨sb, 0, none⟩), .agg #[.int .i64 y.a, .int .i64 y.b]] W fun e w' => e = .returned (.bool (p y)) ∧ Below W.heap.size W w')
    (hn : n ≤ 140737488355328) (h1 : Vs w B A n l) (hB : B ≤ w.heap.size) :
    Calls Tryz.prog 91 #[.slice A n c, .func (.func g) #[.pointer (some ⟨sb, 0, none⟩)] #[]] w fun e w' => (∃ z : Int, e = .returned (.int .i64 z) ∧ decide (0 ≤ z) = l.any p) ∧ Below w.heap.size w w' := by
  have H1 := Lib.hid h1
  have hln := h1.1
  have HP := Lib.hid hp
  clear h1 hp
  go_enter Tryz.func91, Tryz.ntmps91
  go_wp2_with fail
  go_loopw [5, 8] (fun _ i wr => ∃ k : Nat, k ≤ n ∧ i = .int .i64 k ∧ (∀ (j : Nat) (y : E2), j < k → l[j]? = some y → (!p y) = true) ∧ Below w.heap.size w wr) (fun _ i _ => n - (intOf i).toNat)
  case atStart => exact ⟨0, by omega, rfl, fun j y h => absurd h (by omega), Below.refl _ _⟩
  case round =>
    obtain ⟨k, hk, rfl, hP, hb⟩ := hrel
    have HQ := Lib.hid hP
    have HB := Lib.hid hb
    clear hP
    by_cases hlt : k < n
    · obtain ⟨b, o, y, rfl, hbB, hx, a0, a1⟩ := (H1.out.below (below_le hb hB)).at_ hlt
      have HX := Lib.hid hx
      clear hb hx
      generalize hpy : p y = q
      have HPY := Lib.hid hpy
      clear hpy
      cases q with
      | true =>
        go_wp2_with (go_at_fn g; refine (HP.out _ k y HX.out HB.out).mono ?_; rintro e w' ⟨rfl, hb'⟩; rw [HPY.out])
        go_ret
        exact ⟨⟨k, rfl, by rw [any_hit HX.out HPY.out]; exact decide_eq_true (by omega)⟩, HB.out.trans (hb'.mono HB.out.size)⟩
      | false =>
        go_wp2_with (go_at_fn g; refine (HP.out _ k y HX.out HB.out).mono ?_; rintro e w' ⟨rfl, hb'⟩; rw [HPY.out])
        go_roundw
        case rel => exact ⟨k + 1, by omega, by go_num, all_step (p := fun y => !p y) HQ.out HX.out (by rw [HPY.out]; rfl), HB.out.trans (hb'.mono HB.out.size)⟩
        case measure => simp [intOf]; omega
    · clear hb
      obtain rfl : n = k := by omega
      go_wp2_with fail
      go_ret
      exact ⟨⟨-1, rfl, by rw [any_none hln HQ.out]; rfl⟩, HB.out⟩
set_option maxHeartbeats 1600000 in
theorem lib_containsf {w : World} {B n c : Nat} {A : Option Addr} {l : List E2} (g : Nat) (sb : Nat) (p : E2 → Bool) (eg : ∀ args w, (callFunc g args).run Tryz.prog w = .ok (.enter g args) w)
    (hp : ∀ (W : World) (k : Nat) (y : E2), l[k]? = some y → Below w.heap.size w W → Calls Tryz.prog g #[.pointer (some ⟨sb, 0, none⟩), .agg #[.int .i64 y.a, .int .i64 y.b]] W fun e w' => e = .returned (.bool (p y)) ∧ Below W.heap.size W w')
    (hn : n ≤ 140737488355328) (h1 : Vs w B A n l) (hB : B ≤ w.heap.size) :
    Calls Tryz.prog 77 #[.slice A n c, .func (.func g) #[.pointer (some ⟨sb, 0, none⟩)] #[]] w fun e w' => e = .returned (.bool (l.any p)) ∧ Below w.heap.size w w' := by
  have HC := Lib.hid (lib_indexf (c := c) g sb p eg hp hn h1 hB)
  clear hp h1
  go_enter Tryz.func77, Tryz.ntmps77
  go_wp2_with fail
  refine HC.out.mono ?_
  rintro e W1 ⟨⟨z, rfl, hz⟩, hb1⟩
  have HB1 := Lib.hid hb1
  have HZ := Lib.hid hz
  clear hb1 hz
  go_wp2_with fail
  go_ret
  exact ⟨vers.ret_b HZ.out, HB1.out⟩
theorem enters_lacks : ∀ (args : Array Value) (w : World), (callFunc 78 args).run Tryz.prog w = .ok (.enter 78 args) w := enters_of Tryz.func78 (by kernel_rfl) rfl
theorem any_all {C : List (List Ver)} (R : List E2) : (!R.any fun y => !hasV C y) = R.all (hasV C) := by
  rw [List.not_any_eq_all_not]
  congr 1
  funext y
  simp
set_option maxRecDepth 100000 in
set_option maxHeartbeats 3200000 in
theorem impl_rex {w : World} {B n c n2 c2 N cN : Nat} {A A2 D : Option Addr} {R S : List E2} {C : List (List Ver)} (x : Hd) (hn : n ≤ 140737488355328) (hn2 : n2 ≤ 140737488355328) (hN : N ≤ 140737488355328) (h1 : Vs w B A n R) (h2 : Vs w B A2 n2 S) (h3 : Rs w B D N C) (hB : B ≤ w.heap.size) :
    Calls Tryz.prog 56 #[.agg #[.slice D N cN], .agg #[.int .i64 x.i, .int .i64 x.s, .int .i64 x.t, .int .i64 x.b, .int .i64 x.l, .int .i64 x.h, .int .i64 x.c, .slice A n c, .slice A2 n2 c2]] w fun e w' => e = .returned (.bool (rexB C x R S)) ∧ Below w.heap.size w w' := by
  have H1 := Lib.hid h1
  have H2 := Lib.hid h2
  have H3 := Lib.hid h3
  have hln := h1.1
  clear h1 h2 h3
  have hmf : ∀ (fn : Fn) (first cap : Array Value) (w : World), (Instr.makeFunc fn first cap).run Tryz.prog w = .ok (.func fn first cap) w := fun _ _ _ _ => rfl
  go_enter Tryz.func56, Tryz.ntmps56
  go_wp2_with fail
  have hL := LS.mk2 w (.slice D N cN) 33 37 x A n c A2 n2 c2
  generalize ((w.alloc _).alloc _) = W0 at hL ⊢
  have L0 := Lib.hid hL
  have c0 := hL.st
  clear hL
  go_wp2_with fail
  refine (val.impl_store hN (H3.out.below (below_le L0.out.bel hB)) (by have := L0.out.size; omega)).mono ?_
  rintro e W1 ⟨rfl, hb⟩
  have L1 := Lib.hid (L0.out.call hb)
  obtain ⟨t0, t1, t2, t3, t4, t5, t6, t7, t8⟩ := L1.out.tb
  clear hb c0
  rcases hst : stB C with _ | _
  · have HST := Lib.hid hst
    clear hst
    go_wp2_with fail
    go_ret
    exact ⟨vers.ret_b (rex_st HST.out).symm, L1.out.bel⟩
  have HST := Lib.hid hst
  clear hst
  go_wp2_with fail
  refine (tv.impl_tx x hn hn2 (H1.out.below (below_le L1.out.bel hB)) (H2.out.below (below_le L1.out.bel hB)) (by have := L1.out.size; omega)).mono ?_
  rintro e W2 ⟨rfl, hb⟩
  have L2 := Lib.hid (L1.out.call hb)
  clear hb t0 t1 t2 t3 t4 t5 t6 t7 t8
  rcases htx : txB x R S with _ | _
  · have HTX := Lib.hid htx
    clear htx
    go_wp2_with fail
    go_ret
    exact ⟨vers.ret_b (rex_tx HTX.out).symm, L2.out.bel⟩
  have HTX := Lib.hid htx
  clear htx
  obtain ⟨t0, t1, t2, t3, t4, t5, t6, t7, t8⟩ := L2.out.tb
  clear t0 t1 t2 t3 t4 t5 t6 t8
  go_wp2_with fail
  refine (lib_containsf (c := c) 78 w.heap.size (fun y => !hasV C y) enters_lacks ?_ hn (H1.out.below (below_le L2.out.bel hB)) (by have := L2.out.size; omega)).mono ?_
  · intro W k y hx hbW
    have hkey := key_of HTX.out hx
    have h6 : N = 6 := by have := val.st_six HST.out; rw [H3.out.1] at this; exact this
    have L3 := L2.out.call hbW
    exact impl_lacks y w.heap.size (by have := L3.size; omega) L3.st hkey.1 (by omega) (H3.out.below (below_le L3.bel hB)) (by have := L3.size; omega)
  · rintro e W3 ⟨rfl, hb⟩
    have L3 := Lib.hid (L2.out.call hb)
    clear hb t7
    obtain ⟨q, hq⟩ : ∃ q, (R.any fun y => !hasV C y) = q := ⟨_, rfl⟩
    rw [hq]
    have HQ := Lib.hid hq
    clear hq
    go_wp2_with fail
    go_ret
    exact ⟨vers.ret_b (by rw [rex_all HST.out HTX.out, ← any_all, HQ.out]), L3.out.bel⟩
end Go.Proofs.YthbbpfgjbidbhaaGreatDoor.ri
/- RefreshLow of the program and of the model: what each answers; nothing that was there is written. -/
namespace Go.Proofs.YthbbpfgjbidbhaaGreatDoor.rl
open Go.ChangeShapes Go.WideShapes Go.ChangeAt Go.RowKit
open Go.Proofs.YthbbpfgjbidbhaaGreatDoor.el2 Go.Proofs.YthbbpfgjbidbhaaGreatDoor.tx Go.Proofs.YthbbpfgjbidbhaaGreatDoor.seq Go.Proofs.YthbbpfgjbidbhaaGreatDoor.tv Go.Proofs.YthbbpfgjbidbhaaGreatDoor.tf Go.Proofs.YthbbpfgjbidbhaaGreatDoor.rx Go.Proofs.YthbbpfgjbidbhaaGreatDoor.ri
open Go.Proofs.YthbbpfgjbidbhaaGreatDoor.vers (new2)
open Go.Proofs.YthbbpfgjbidbhaaGreatDoor.sl (Ver)
open Go.Proofs.YthbbpfgjbidbhaaGreatDoor.st (Rs)
open Go.Proofs.YthbbpfgjbidbhaaGreatDoor.val (stB)
set_option linter.unusedVariables false
set_option linter.unusedSimpArgs false
/-- both are valid -/
noncomputable def bothB (C : List (List Ver)) (x : Hd) (R S : List E2) : Bool := stB C && txB x R S
theorem no_st {C : List (List Ver)} {x : Hd} {R S : List E2} (h : stB C = false) : bothB C x R S = false := by simp [bothB, h]
theorem no_tx {C : List (List Ver)} {x : Hd} {R S : List E2} (h : txB x R S = false) : bothB C x R S = false := by simp [bothB, h]
theorem both_yes {C : List (List Ver)} {x : Hd} {R S : List E2} (hs : stB C = true) (ht : txB x R S = true) : bothB C x R S = true := by simp [bothB, hs, ht]
theorem both_parts {C : List (List Ver)} {x : Hd} {R S : List E2} (h : bothB C x R S = true) : stB C = true ∧ txB x R S = true := by simpa [bothB] using h
theorem tx_wr {x : Hd} {R S : List E2} (h : txB x R S = true) : wrB S = true := by simp only [txB, Bool.and_eq_true] at h; exact h.2
theorem okW_key {m : E2} (h : okW m = true) : 0 ≤ m.a ∧ m.a ≤ 5 := by
  simp only [okW, vers.In, Bool.and_eq_true, decide_eq_true_eq] at h
  exact h.1
theorem wkey_of {x : Hd} {R S : List E2} {k : Nat} {m : E2} (h : txB x R S = true) (hx : S[k]? = some m) : 0 ≤ m.a ∧ m.a ≤ 5 := okW_key ((sq_of (tx_wr h)).1 k m hx)
/-- the latest version of a write's key -/
noncomputable def latOf (C : List (List Ver)) (m : E2) : Ver := Go.Proofs.YthbbpfgjbidbhaaGreatDoor.find.lastV (chOf C m.a)
theorem lat_at {C : List (List Ver)} {m : E2} {l : List Ver} (h : C[m.a.toNat]? = some l) : Go.Proofs.YthbbpfgjbidbhaaGreatDoor.find.lastV l = latOf C m := by unfold latOf; rw [ch_at h]
theorem fld3 (a b c d e : Value) (W : World) : (Instr.field 81 (.agg #[a, b, c, d, e]) 3).run Tryz.prog W = .ok d W := by
  have hu := Tryz.underlying81
  simp [Instr.field, run_underlying hu, go_sem, asAgg]
theorem fld2 (a b c d e : Value) (W : World) : (Instr.field 81 (.agg #[a, b, c, d, e]) 2).run Tryz.prog W = .ok c W := by
  have hu := Tryz.underlying81
  simp [Instr.field, run_underlying hu, go_sem, asAgg]
theorem ret_i {a b : Int} (h : a = b) : Ending.returned (.int .i64 a) = .returned (.int .i64 b) := by rw [h]
theorem val_i {a b : Int} (h : a = b) : Value.int .i64 a = .int .i64 b := by rw [h]
/-- the greatest creation among the first k reads -/
def loR (R : List E2) (k : Nat) : Int := (R.take k).foldl (fun a m => max a m.b) 0
/-- .. and of the readers of the latest versions of the first k written keys -/
noncomputable def loW (C : List (List Ver)) (R S : List E2) (k : Nat) : Int := (S.take k).foldl (fun a m => max a (latOf C m).d) (loR R R.length)
noncomputable def rlI (C : List (List Ver)) (x : Hd) (R S : List E2) : Int := if bothB C x R S = true then loW C R S S.length else 0
theorem loR_step {R : List E2} {k : Nat} {y : E2} (hx : R[k]? = some y) : loR R (k + 1) = max (loR R k) y.b := by
  unfold loR
  rw [List.take_add_one, hx]
  simp [List.foldl_append]
theorem loW_step {C : List (List Ver)} {R S : List E2} {k : Nat} {y : E2} {z : Ver} (hx : S[k]? = some y) (hz : latOf C y = z) : loW C R S (k + 1) = max (loW C R S k) z.d := by
  unfold loW
  rw [List.take_add_one, hx, ← hz]
  simp [List.foldl_append]
theorem loW_zero {C : List (List Ver)} {R S : List E2} {n : Nat} (hn : R.length = n) : loR R n = loW C R S 0 := by subst hn; simp [loW]
theorem rl_no {C : List (List Ver)} {x : Hd} {R S : List E2} (h : bothB C x R S = false) : (0 : Int) = rlI C x R S := by simp [rlI, h]
theorem rl_yes {C : List (List Ver)} {x : Hd} {R S : List E2} {n : Nat} (hn : S.length = n) (h : bothB C x R S = true) : loW C R S n = rlI C x R S := by subst hn; simp [rlI, h]
set_option maxRecDepth 100000 in
set_option maxHeartbeats 3200000 in
theorem spec_rl {w : World} {B n c n2 c2 N cN : Nat} {A A2 D : Option Addr} {R S : List E2} {C : List (List Ver)} (x : Hd) (hn : n ≤ 2097152) (hn2 : n2 ≤ 2097152) (hN : N ≤ 2097152) (h1 : Vs w B A n R) (h2 : Vs w B A2 n2 S) (h3 : Rs w B D N C) (hB : B ≤ w.heap.size) :
    Calls Tryz.prog 45 #[.agg #[.slice D N cN], .agg #[.int .i64 x.i, .int .i64 x.s, .int .i64 x.t, .int .i64 x.b, .int .i64 x.l, .int .i64 x.h, .int .i64 x.c, .slice A n c, .slice A2 n2 c2]] w fun e w' => e = .returned (.int .i64 (rlI C x R S)) ∧ Below w.heap.size w w' := by
  have H1 := Lib.hid h1
  have H2 := Lib.hid h2
  have H3 := Lib.hid h3
  have hln := h1.1
  have hln2 := h2.1
  clear h1 h2 h3
  go_enter Tryz.func45, Tryz.ntmps45
  go_wp2_with fail
  have hL := LS.mk2 w (.slice D N cN) 33 37 x A n c A2 n2 c2
  generalize ((w.alloc _).alloc _) = W0 at hL ⊢
  have L0 := Lib.hid hL
  have c0 := hL.st
  clear hL
  go_wp2_with fail
  refine (val.spec_store (by omega) (H3.out.below (below_le L0.out.bel hB)) (by have := L0.out.size; omega)).mono ?_
  rintro e W1 ⟨rfl, hb⟩
  have L1 := Lib.hid (L0.out.call hb)
  clear hb c0
  rcases hst : stB C with _ | _
  · have HE := Lib.hid (no_st (x := x) (R := R) (S := S) hst)
    clear hst
    go_wp2_with fail
    go_ret
    exact ⟨ret_i (rl_no HE.out), L1.out.bel⟩
  obtain ⟨t0, t1, t2, t3, t4, t5, t6, t7, t8⟩ := L1.out.tb
  have HST := Lib.hid hst
  clear hst
  go_wp2_with fail
  refine (tvs.spec_tx x (by omega) (by omega) (H1.out.below (below_le L1.out.bel hB)) (H2.out.below (below_le L1.out.bel hB)) (by have := L1.out.size; omega)).mono ?_
  rintro e W2 ⟨rfl, hb⟩
  have L2 := Lib.hid (L1.out.call hb)
  clear hb t0 t1 t2 t3 t4 t5 t6 t7 t8
  rcases htx : txB x R S with _ | _
  · have HE := Lib.hid (no_tx (C := C) htx)
    clear htx
    go_wp2_with fail
    go_ret
    exact ⟨ret_i (rl_no HE.out), L2.out.bel⟩
  have HTX := Lib.hid htx
  clear htx
  go_wp2_with fail
  go_loopw [5, 6] (fun a i wr => ∃ k : Nat, k ≤ n ∧ i = .int .i64 k ∧ a = .int .i64 (loR R k) ∧ LS w (.slice D N cN) x (.slice A n c) (.slice A2 n2 c2) wr) (fun _ i _ => n - (intOf i).toNat)
  case atStart => exact ⟨0, by omega, rfl, rfl, L2.out⟩
  case round =>
    obtain ⟨k, hk, rfl, rfl, hL⟩ := hrel
    have LW := Lib.hid hL
    obtain ⟨t0, t1, t2, t3, t4, t5, t6, t7, t8⟩ := hL.tb
    clear hL t0 t1 t2 t3 t4 t5 t6 t8
    obtain ⟨z, hz⟩ : ∃ z, loR R k = z := ⟨_, rfl⟩
    rw [hz]
    have HZ := Lib.hid hz
    clear hz
    by_cases hlt : k < n
    · obtain ⟨b, o, y, rfl, hbB, hx, a0, a1⟩ := (H1.out.below (below_le LW.out.bel hB)).at_ hlt
      have HX := Lib.hid hx
      clear hx
      go_wp2_with fail
      go_roundw
      case rel => exact ⟨k + 1, by omega, by go_num, val_i (by rw [loR_step HX.out, HZ.out]), LW.out⟩
      case measure => simp [intOf]; omega
    · obtain rfl : n = k := by omega
      have HZ2 : Hid (loW C R S 0 = z) := Lib.hid (by rw [← loW_zero hln, HZ.out])
      go_wp2_with fail
      clear t7
      go_loopw [5, 7] (fun a i wr => ∃ k : Nat, k ≤ n2 ∧ i = .int .i64 k ∧ a = .int .i64 (loW C R S k) ∧ LS w (.slice D N cN) x (.slice A n c) (.slice A2 n2 c2) wr) (fun _ i _ => n2 - (intOf i).toNat)
      case atStart => exact ⟨0, by omega, rfl, val_i HZ2.out.symm, LW.out⟩
      case round =>
        clear LW HZ HZ2
        obtain ⟨k, hk, rfl, rfl, hL⟩ := hrel
        have LW := Lib.hid hL
        have c0 := hL.st
        obtain ⟨t0, t1, t2, t3, t4, t5, t6, t7, t8⟩ := hL.tb
        clear hL t0 t1 t2 t3 t4 t5 t6 t7
        obtain ⟨v, hv⟩ : ∃ z, loW C R S k = z := ⟨_, rfl⟩
        rw [hv]
        have HVV := Lib.hid hv
        clear hv
        by_cases hlt : k < n2
        · obtain ⟨b, o, y, rfl, hbB, hx, a0, a1⟩ := (H2.out.below (below_le LW.out.bel hB)).at_ hlt
          have HX := Lib.hid hx
          clear hx
          have h6 := val.st_six HST.out
          rw [H3.out.1] at h6
          obtain ⟨s1, s2⟩ := wkey_of HTX.out HX.out
          have s3 : y.a < (N : Int) := by omega
          have s4 : y.a.toNat < N := by omega
          clear h6
          obtain ⟨b2, o2, l, A9, n9, c9, rfl, hb2, hl, d0, hn9, hv⟩ := (H3.out.below (below_le LW.out.bel hB)).at_ s4
          have HL := Lib.hid hl
          have HV := Lib.hid hv
          clear hl hv
          obtain ⟨z, hz⟩ : ∃ z, latOf C y = z := ⟨_, rfl⟩
          have HZ := Lib.hid hz
          have HLV : Hid (Go.Proofs.YthbbpfgjbidbhaaGreatDoor.find.lastV l = z) := Lib.hid (by rw [lat_at HL.out, hz])
          clear hz
          go_wp2_with fail
          have hbk0 : Below wr.heap.size wr wr.drew := (Below.refl _ _).drew
          have hsz := LW.out.size
          have hlb : b < wr.heap.size := by omega
          have hlb2 : b2 < wr.heap.size := by omega
          have C0 := Lib.hid c0
          have T8 := Lib.hid t8
          have A0 := Lib.hid a0
          have D0 := Lib.hid d0
          clear a1
          go_region_held3 (fun w' => w'.cell? ⟨w.heap.size, 0, none⟩ = some (.slice (some ⟨b2, o2, none⟩) N cN) ∧ w'.cell? ⟨w.heap.size + 1, 8, none⟩ = some (.slice (some ⟨b, o, none⟩) n2 c2) ∧ w'.cell? ⟨b, o + k * 2, none⟩ = some (.int .i64 y.a) ∧ w'.cell? ⟨b2, o2 + y.a.toNat, none⟩ = some (.slice A9 n9 c9)) (go_keep) (first | (go_at_call 71; (with_reducible refine (Go.Proofs.YthbbpfgjbidbhaaGreatDoor.find.latest_spec HLV.out hn9 ((HV.out.below (below_le hbk0 (Nat.le_trans hB LW.out.bel.size))).more (show B ≤ wr.heap.size by omega)) (Nat.le_refl _)).mono ?_); rintro e W3 ⟨he, hb'⟩; subst he; have hf := fld3 (.int .i64 z.a) (.int .i64 z.b) (.int .i64 z.c) (.int .i64 z.d) (.int .i64 z.e); have hbk1 := hbk0.trans (hb'.mono hbk0.size); have c1 := (hbk1.cell (p := ⟨w.heap.size, 0, none⟩) (by simp only; omega)).trans C0.out; have e8 := (hbk1.cell (p := ⟨w.heap.size + 1, 8, none⟩) (by simp only; omega)).trans T8.out; have e0 := (hbk1.cell (p := ⟨b, o + k * 2, none⟩) hlb).trans A0.out; have e9 := (hbk1.cell (p := ⟨b2, o2 + y.a.toNat, none⟩) hlb2).trans D0.out))
          have L3 := Lib.hid (LW.out.call hbk1)
          clear hf c1 e8 e0 e9 hbk0 hbk1 hb' c0 t8 a0 d0
          go_wp2_with fail
          go_roundw
          case rel => exact ⟨k + 1, by omega, by go_num, val_i (by rw [loW_step HX.out HZ.out, HVV.out]), L3.out⟩
          case measure => simp [intOf]; omega
        · obtain rfl : n2 = k := by omega
          go_wp2_with fail
          go_ret
          exact ⟨ret_i (by rw [← HVV.out]; exact rl_yes hln2 (both_yes HST.out HTX.out)), LW.out.bel⟩
set_option maxRecDepth 100000 in
set_option maxHeartbeats 3200000 in
theorem impl_rl {w : World} {B n c n2 c2 N cN : Nat} {A A2 D : Option Addr} {R S : List E2} {C : List (List Ver)} (x : Hd) (hn : n ≤ 2097152) (hn2 : n2 ≤ 2097152) (hN : N ≤ 2097152) (h1 : Vs w B A n R) (h2 : Vs w B A2 n2 S) (h3 : Rs w B D N C) (hB : B ≤ w.heap.size) :
    Calls Tryz.prog 59 #[.agg #[.slice D N cN], .agg #[.int .i64 x.i, .int .i64 x.s, .int .i64 x.t, .int .i64 x.b, .int .i64 x.l, .int .i64 x.h, .int .i64 x.c, .slice A n c, .slice A2 n2 c2]] w fun e w' => e = .returned (.int .i64 (rlI C x R S)) ∧ Below w.heap.size w w' := by
  have H1 := Lib.hid h1
  have H2 := Lib.hid h2
  have H3 := Lib.hid h3
  have hln := h1.1
  have hln2 := h2.1
  clear h1 h2 h3
  go_enter Tryz.func59, Tryz.ntmps59
  go_wp2_with fail
  have hL := LS.mk2 w (.slice D N cN) 33 37 x A n c A2 n2 c2
  generalize ((w.alloc _).alloc _) = W0 at hL ⊢
  have L0 := Lib.hid hL
  have c0 := hL.st
  clear hL
  go_wp2_with fail
  refine (val.impl_store (by omega) (H3.out.below (below_le L0.out.bel hB)) (by have := L0.out.size; omega)).mono ?_
  rintro e W1 ⟨rfl, hb⟩
  have L1 := Lib.hid (L0.out.call hb)
  clear hb c0
  rcases hst : stB C with _ | _
  · have HE := Lib.hid (no_st (x := x) (R := R) (S := S) hst)
    clear hst
    go_wp2_with fail
    go_ret
    exact ⟨ret_i (rl_no HE.out), L1.out.bel⟩
  obtain ⟨t0, t1, t2, t3, t4, t5, t6, t7, t8⟩ := L1.out.tb
  have HST := Lib.hid hst
  clear hst
  go_wp2_with fail
  refine (impl_tx x (by omega) (by omega) (H1.out.below (below_le L1.out.bel hB)) (H2.out.below (below_le L1.out.bel hB)) (by have := L1.out.size; omega)).mono ?_
  rintro e W2 ⟨rfl, hb⟩
  have L2 := Lib.hid (L1.out.call hb)
  clear hb t0 t1 t2 t3 t4 t5 t6 t7 t8
  rcases htx : txB x R S with _ | _
  · have HE := Lib.hid (no_tx (C := C) htx)
    clear htx
    go_wp2_with fail
    go_ret
    exact ⟨ret_i (rl_no HE.out), L2.out.bel⟩
  have HTX := Lib.hid htx
  clear htx
  obtain ⟨t0, t1, t2, t3, t4, t5, t6, t7, t8⟩ := L2.out.tb
  clear t0 t1 t2 t3 t4 t5 t6 t8
  go_wp2_with fail
  clear t7
  go_loopw [5, 7, 21] (fun a _ i wr => ∃ k : Nat, k ≤ n ∧ i = .int .i64 k ∧ a = .int .i64 (loR R k) ∧ LS w (.slice D N cN) x (.slice A n c) (.slice A2 n2 c2) wr) (fun _ _ i _ => n - (intOf i).toNat)
  case atStart => exact ⟨0, by omega, rfl, rfl, L2.out⟩
  case round =>
    obtain ⟨k, hk, rfl, rfl, hL⟩ := hrel
    have LW := Lib.hid hL
    clear hL
    obtain ⟨z, hz⟩ : ∃ z, loR R k = z := ⟨_, rfl⟩
    rw [hz]
    have HZ := Lib.hid hz
    clear hz
    by_cases hlt : k < n
    · obtain ⟨b, o, y, rfl, hbB, hx, a0, a1⟩ := (H1.out.below (below_le LW.out.bel hB)).at_ hlt
      have HX := Lib.hid hx
      have LX := Lib.hid (LW.out.call (new1 wr (.cells #[.int .i64 y.a, .int .i64 y.b] 78)))
      clear hx
      go_wp2_with fail
      go_roundw
      case rel => exact ⟨k + 1, by omega, by go_num, val_i (by rw [loR_step HX.out, HZ.out]), LX.out⟩
      case measure => simp [intOf]; omega
    · obtain rfl : n = k := by omega
      have HZ2 : Hid (loW C R S 0 = z) := Lib.hid (by rw [← loW_zero hln, HZ.out])
      obtain ⟨t0, t1, t2, t3, t4, t5, t6, t7, t8⟩ := LW.out.tb
      clear t0 t1 t2 t3 t4 t5 t6 t7
      go_wp2_with fail
      clear t8
      go_loopw [5, 9, 33] (fun a _ i wr => ∃ k : Nat, k ≤ n2 ∧ i = .int .i64 k ∧ a = .int .i64 (loW C R S k) ∧ LS w (.slice D N cN) x (.slice A n c) (.slice A2 n2 c2) wr) (fun _ _ i _ => n2 - (intOf i).toNat)
      case atStart => exact ⟨0, by omega, rfl, val_i HZ2.out.symm, LW.out⟩
      case round =>
        clear LW HZ HZ2
        obtain ⟨k, hk, rfl, rfl, hL⟩ := hrel
        have LW := Lib.hid hL
        clear hL
        obtain ⟨v, hv⟩ : ∃ z, loW C R S k = z := ⟨_, rfl⟩
        rw [hv]
        have HVV := Lib.hid hv
        clear hv
        by_cases hlt : k < n2
        · obtain ⟨b, o, y, rfl, hbB, hx, a0, a1⟩ := (H2.out.below (below_le LW.out.bel hB)).at_ hlt
          have HX := Lib.hid hx
          clear hx
          have hb := new1 wr (.cells #[.int .i64 y.a, .int .i64 y.b] 75)
          have mb := boxed wr y 75
          have LX := Lib.hid (LW.out.call hb)
          have c0 := LX.out.st
          have hsz := LW.out.size
          have h6 := val.st_six HST.out
          rw [H3.out.1] at h6
          obtain ⟨s1, s2⟩ := wkey_of HTX.out HX.out
          have s3 : y.a < (N : Int) := by omega
          have s4 : y.a.toNat < N := by omega
          clear h6
          obtain ⟨b2, o2, l, A9, n9, c9, rfl, hb2, hl, d0, hn9, hv⟩ := (H3.out.below (below_le LX.out.bel hB)).at_ s4
          have HL := Lib.hid hl
          have HV := Lib.hid hv
          clear hl hv
          obtain ⟨z, hz⟩ : ∃ z, latOf C y = z := ⟨_, rfl⟩
          have HZ := Lib.hid hz
          have HLV : Hid (Go.Proofs.YthbbpfgjbidbhaaGreatDoor.find.lastV l = z) := Lib.hid (by rw [lat_at HL.out, hz])
          clear hz
          clear mb
          go_wp2_with fail
          generalize hW : wr.alloc _ = W2 at c0 d0 hb LX HV ⊢
          clear hW a0 a1
          refine (Go.Proofs.YthbbpfgjbidbhaaGreatDoor.find.latest_impl HLV.out hn9 (HV.out.more (show B ≤ W2.heap.size by have := hb.size; omega)) (Nat.le_refl _)).mono ?_
          rintro e W3 ⟨rfl, hb3⟩
          have L3 := Lib.hid (LX.out.call hb3)
          have hf := fld3 (.int .i64 z.a) (.int .i64 z.b) (.int .i64 z.c) (.int .i64 z.d) (.int .i64 z.e) W3
          clear c0 d0 hb hb3
          go_wp2_with fail
          go_roundw
          case rel => exact ⟨k + 1, by omega, by go_num, val_i (by rw [loW_step HX.out HZ.out, HVV.out]), L3.out⟩
          case measure => simp [intOf]; omega
        · obtain rfl : n2 = k := by omega
          go_wp2_with fail
          go_ret
          exact ⟨ret_i (by rw [← HVV.out]; exact rl_yes hln2 (both_yes HST.out HTX.out)), LW.out.bel⟩
end Go.Proofs.YthbbpfgjbidbhaaGreatDoor.rl
/- RefreshHigh of the program and of the model: what each answers; nothing that was there is written. -/
namespace Go.Proofs.YthbbpfgjbidbhaaGreatDoor.rh
open Go.ChangeShapes Go.WideShapes Go.ChangeAt Go.RowKit
open Go.Proofs.YthbbpfgjbidbhaaGreatDoor.el2 Go.Proofs.YthbbpfgjbidbhaaGreatDoor.tx Go.Proofs.YthbbpfgjbidbhaaGreatDoor.seq Go.Proofs.YthbbpfgjbidbhaaGreatDoor.tv Go.Proofs.YthbbpfgjbidbhaaGreatDoor.tf Go.Proofs.YthbbpfgjbidbhaaGreatDoor.rx Go.Proofs.YthbbpfgjbidbhaaGreatDoor.ri
open Go.Proofs.YthbbpfgjbidbhaaGreatDoor.vers (new2)
open Go.Proofs.YthbbpfgjbidbhaaGreatDoor.sl (Ver)
open Go.Proofs.YthbbpfgjbidbhaaGreatDoor.st (Rs)
open Go.Proofs.YthbbpfgjbidbhaaGreatDoor.val (stB)
open Go.Proofs.YthbbpfgjbidbhaaGreatDoor.find (fndI)
set_option linter.unusedVariables false
set_option linter.unusedSimpArgs false
/-- the least successor among the versions of the first k reads -/
noncomputable def hiK (C : List (List Ver)) (R : List E2) (k : Nat) : Int := (R.take k).foldl (fun h m => min h (verOf C m).e) 1000
noncomputable def rhI (C : List (List Ver)) (x : Hd) (R S : List E2) : Int := if rexB C x R S = true then hiK C R R.length else 0
theorem hi_step {C : List (List Ver)} {R : List E2} {k : Nat} {y : E2} {z : Int} (hx : R[k]? = some y) (hz : (verOf C y).e = z) : hiK C R (k + 1) = min (hiK C R k) z := by
  unfold hiK
  have hk := lt_get hx
  rw [List.take_add_one, hx, ← hz]
  simp [List.foldl_append]
theorem rh_no {C : List (List Ver)} {x : Hd} {R S : List E2} (h : rexB C x R S = false) : (0 : Int) = rhI C x R S := by simp [rhI, h]
theorem rh_yes {C : List (List Ver)} {x : Hd} {R S : List E2} {n : Nat} (hn : R.length = n) (h : rexB C x R S = true) : hiK C R n = rhI C x R S := by subst hn; simp [rhI, h]
theorem ret_i {a b : Int} (h : a = b) : Ending.returned (.int .i64 a) = .returned (.int .i64 b) := by rw [h]
theorem val_i {a b : Int} (h : a = b) : Value.int .i64 a = .int .i64 b := by rw [h]
set_option maxRecDepth 100000 in
set_option maxHeartbeats 3200000 in
theorem spec_rh {w : World} {B n c n2 c2 N cN : Nat} {A A2 D : Option Addr} {R S : List E2} {C : List (List Ver)} (x : Hd) (hn : n ≤ 140737488355328) (hn2 : n2 ≤ 140737488355328) (hN : N ≤ 140737488355328) (h1 : Vs w B A n R) (h2 : Vs w B A2 n2 S) (h3 : Rs w B D N C) (hB : B ≤ w.heap.size) :
    Calls Tryz.prog 46 #[.agg #[.slice D N cN], .agg #[.int .i64 x.i, .int .i64 x.s, .int .i64 x.t, .int .i64 x.b, .int .i64 x.l, .int .i64 x.h, .int .i64 x.c, .slice A n c, .slice A2 n2 c2]] w fun e w' => e = .returned (.int .i64 (rhI C x R S)) ∧ Below w.heap.size w w' := by
  have H1 := Lib.hid h1
  have H2 := Lib.hid h2
  have H3 := Lib.hid h3
  have hln := h1.1
  clear h1 h2 h3
  go_enter Tryz.func46, Tryz.ntmps46
  go_wp2_with fail
  have hL := LS.mk2 w (.slice D N cN) 33 37 x A n c A2 n2 c2
  generalize ((w.alloc _).alloc _) = W0 at hL ⊢
  have L0 := Lib.hid hL
  have c0 := hL.st
  obtain ⟨t0, t1, t2, t3, t4, t5, t6, t7, t8⟩ := hL.tb
  clear hL
  go_wp2_with fail
  refine (spec_rex x hn hn2 hN (H1.out.below (below_le L0.out.bel hB)) (H2.out.below (below_le L0.out.bel hB)) (H3.out.below (below_le L0.out.bel hB)) (by have := L0.out.size; omega)).mono ?_
  rintro e W1 ⟨rfl, hb⟩
  have L1 := Lib.hid (L0.out.call hb)
  clear hb c0 t0 t1 t2 t3 t4 t5 t6 t7 t8
  rcases hrx : rexB C x R S with _ | _
  · have HRX := Lib.hid hrx
    clear hrx
    go_wp2_with fail
    go_ret
    exact ⟨ret_i (rh_no HRX.out), L1.out.bel⟩
  have HRX := Lib.hid hrx
  clear hrx
  go_wp2_with fail
  go_loopw [5, 6, 7] (fun a i _ wr => ∃ k : Nat, k ≤ n ∧ i = .int .i64 k ∧ a = .int .i64 (hiK C R k) ∧ LS w (.slice D N cN) x (.slice A n c) (.slice A2 n2 c2) wr) (fun _ i _ _ => n - (intOf i).toNat)
  case atStart => exact ⟨0, by omega, rfl, rfl, L1.out⟩
  case round =>
    obtain ⟨k, hk, rfl, rfl, hL⟩ := hrel
    have LW := Lib.hid hL
    have c0 := hL.st
    obtain ⟨t0, t1, t2, t3, t4, t5, t6, t7, t8⟩ := hL.tb
    clear hL t0 t1 t2 t3 t4 t5 t6 t8
    by_cases hlt : k < n
    · obtain ⟨b, o, y, rfl, hbB, hx, a0, a1⟩ := (H1.out.below (below_le LW.out.bel hB)).at_ hlt
      obtain ⟨hst, htx, hall⟩ := rex_parts HRX.out
      have hkey := key_of htx hx
      have hhas := all_at hall hx
      have h6 := val.st_six hst
      rw [H3.out.1] at h6
      have HX := Lib.hid hx
      obtain ⟨s1, s2⟩ := hkey
      have s3 : y.a < (N : Int) := by omega
      have s4 : y.a.toNat < N := by omega
      clear h6 hst htx hall
      obtain ⟨b2, o2, l, A', n', c', rfl, hb2, hl, d0, hn', hv⟩ := (H3.out.below (below_le LW.out.bel hB)).at_ s4
      have HL := Lib.hid hl
      have HV := Lib.hid hv
      have hln' := hv.1
      unfold hasV at hhas
      rw [ch_at hl] at hhas
      obtain ⟨j, hj, hjl⟩ := fnd_lt (of_decide_eq_true hhas)
      clear hx hl hv hhas
      obtain ⟨b3, o3, v, rfl, hbB3, hx3, e0, e1, e2, e3, e4⟩ := HV.out.at_ (k := j) (by omega)
      have HJ := Lib.hid hj
      have HX3 := Lib.hid hx3
      have hj1 : (0 : Int) ≤ (j : Int) := by omega
      have hj2 : (j : Int) < (n' : Int) := by omega
      clear hj hx3 e0 e1 e2 e3 hjl hln'
      obtain ⟨z, hz⟩ : ∃ z, hiK C R k = z := ⟨_, rfl⟩
      rw [hz]
      have HZ := Lib.hid hz
      clear hz
      go_wp2_with fail
      go_quiet (fail)
      go_wp2_with fail
      refine (spec_findq y.b HJ.out hn' (vsd HV.out _)).mono ?_
      rintro e W2 ⟨rfl, rfl⟩
      go_wp2_with fail
      go_roundw
      case rel => exact ⟨k + 1, by omega, by go_num, val_i (by rw [hi_step HX.out (by rw [ver_at HL.out HJ.out HX3.out]), HZ.out]), LW.out.drewN _⟩
      case measure => simp [intOf]; omega
    · obtain rfl : n = k := by omega
      obtain ⟨z, hz⟩ : ∃ z, hiK C R n = z := ⟨_, rfl⟩
      rw [hz]
      have HZ := Lib.hid hz
      clear hz
      go_wp2_with fail
      go_ret
      exact ⟨ret_i (by rw [← HZ.out]; exact rh_yes hln HRX.out), LW.out.bel⟩
set_option maxRecDepth 100000 in
set_option maxHeartbeats 3200000 in
theorem impl_rh {w : World} {B n c n2 c2 N cN : Nat} {A A2 D : Option Addr} {R S : List E2} {C : List (List Ver)} (x : Hd) (hn : n ≤ 140737488355328) (hn2 : n2 ≤ 140737488355328) (hN : N ≤ 140737488355328) (h1 : Vs w B A n R) (h2 : Vs w B A2 n2 S) (h3 : Rs w B D N C) (hB : B ≤ w.heap.size) :
    Calls Tryz.prog 60 #[.agg #[.slice D N cN], .agg #[.int .i64 x.i, .int .i64 x.s, .int .i64 x.t, .int .i64 x.b, .int .i64 x.l, .int .i64 x.h, .int .i64 x.c, .slice A n c, .slice A2 n2 c2]] w fun e w' => e = .returned (.int .i64 (rhI C x R S)) ∧ Below w.heap.size w w' := by
  have H1 := Lib.hid h1
  have H2 := Lib.hid h2
  have H3 := Lib.hid h3
  have hln := h1.1
  clear h1 h2 h3
  go_enter Tryz.func60, Tryz.ntmps60
  go_wp2_with fail
  have hL := LS.mk2 w (.slice D N cN) 33 37 x A n c A2 n2 c2
  generalize ((w.alloc _).alloc _) = W0 at hL ⊢
  have L0 := Lib.hid hL
  have c0 := hL.st
  obtain ⟨t0, t1, t2, t3, t4, t5, t6, t7, t8⟩ := hL.tb
  clear hL
  go_wp2_with fail
  refine (impl_rex x hn hn2 hN (H1.out.below (below_le L0.out.bel hB)) (H2.out.below (below_le L0.out.bel hB)) (H3.out.below (below_le L0.out.bel hB)) (by have := L0.out.size; omega)).mono ?_
  rintro e W1 ⟨rfl, hb⟩
  have L1 := Lib.hid (L0.out.call hb)
  clear hb c0 t0 t1 t2 t3 t4 t5 t6 t7 t8
  rcases hrx : rexB C x R S with _ | _
  · have HRX := Lib.hid hrx
    clear hrx
    go_wp2_with fail
    go_ret
    exact ⟨ret_i (rh_no HRX.out), L1.out.bel⟩
  have HRX := Lib.hid hrx
  clear hrx
  obtain ⟨t0, t1, t2, t3, t4, t5, t6, t7, t8⟩ := L1.out.tb
  clear t0 t1 t2 t3 t4 t5 t6 t8
  go_wp2_with fail
  clear t7
  go_loopw [5, 7, 15] (fun a _ i wr => ∃ k : Nat, k ≤ n ∧ i = .int .i64 k ∧ a = .int .i64 (hiK C R k) ∧ LS w (.slice D N cN) x (.slice A n c) (.slice A2 n2 c2) wr) (fun _ _ i _ => n - (intOf i).toNat)
  case atStart => exact ⟨0, by omega, rfl, rfl, L1.out⟩
  case round =>
    obtain ⟨k, hk, rfl, rfl, hL⟩ := hrel
    have LW := Lib.hid hL
    clear hL
    obtain ⟨z, hz⟩ : ∃ z, hiK C R k = z := ⟨_, rfl⟩
    rw [hz]
    have HZ := Lib.hid hz
    clear hz
    by_cases hlt : k < n
    · obtain ⟨b, o, y, rfl, hbB, hx, a0, a1⟩ := (H1.out.below (below_le LW.out.bel hB)).at_ hlt
      obtain ⟨hst, htx, hall⟩ := rex_parts HRX.out
      have hkey := key_of htx hx
      have hhas := all_at hall hx
      have h6 := val.st_six hst
      rw [H3.out.1] at h6
      have HX := Lib.hid hx
      have HH := Lib.hid hhas
      obtain ⟨s1, s2⟩ := hkey
      have s3 : y.a < (N : Int) := by omega
      clear h6 hst htx hall hx hhas
      go_wp2_with fail
      have hb := new1 wr (.cells #[.int .i64 y.a, .int .i64 y.b] 78)
      have LX := Lib.hid (LW.out.call hb)
      clear hb a0 a1
      generalize hW : wr.alloc _ = W2 at LX ⊢
      clear hW
      refine (impl_vof y w.heap.size (by have := LX.out.size; omega) LX.out.st s1 s3 (H3.out.below (below_le LX.out.bel hB)) (by have := LX.out.size; omega)).mono ?_
      rintro e W3 ⟨⟨hn, rfl⟩ | ⟨hn, b4, o4, rfl, hbB4, hA⟩, hb1⟩
      · exact absurd hn (by rw [HH.out]; exact fun h => by cases h)
      · have L3 := Lib.hid (LX.out.call hb1)
        obtain ⟨e0, e1, e2, e3, e4⟩ := hA
        obtain ⟨u, hu⟩ : ∃ u, (verOf C y).e = u := ⟨_, rfl⟩
        rw [hu] at e4
        have HU := Lib.hid hu
        clear hb1 e0 e1 e2 e3 hn hu
        go_wp2_with fail
        go_roundw
        case rel => exact ⟨k + 1, by omega, by go_num, val_i (by rw [hi_step HX.out HU.out, HZ.out]), L3.out⟩
        case measure => simp [intOf]; omega
    · obtain rfl : n = k := by omega
      go_wp2_with fail
      go_ret
      exact ⟨ret_i (by rw [← HZ.out]; exact rh_yes hln HRX.out), LW.out.bel⟩
end Go.Proofs.YthbbpfgjbidbhaaGreatDoor.rh
/- The program's and the model's LastStamp: what each answers; nothing that was there is written. -/
namespace Go.Proofs.YthbbpfgjbidbhaaGreatDoor.last
open Go.ChangeShapes Go.WideShapes Go.ChangeAt Go.RowKit
open Go.Proofs.YthbbpfgjbidbhaaGreatDoor.vers Go.Proofs.YthbbpfgjbidbhaaGreatDoor.sl Go.Proofs.YthbbpfgjbidbhaaGreatDoor.ch Go.Proofs.YthbbpfgjbidbhaaGreatDoor.st Go.Proofs.YthbbpfgjbidbhaaGreatDoor.val
set_option linter.unusedVariables false
set_option linter.unusedSimpArgs false
def mxV (m : Int) (x : Ver) : Int := max (max m x.c) x.d
def mxL (m : Int) (l : List Ver) : Int := l.foldl mxV m
def mxS (ll : List (List Ver)) : Int := ll.foldl mxL 0
noncomputable def lstS (ll : List (List Ver)) : Int := if stB ll = true then mxS ll else 0
theorem mx_step {m : Int} {l : List Ver} {k : Nat} {x : Ver} (h : l[k]? = some x) : mxL m (l.take (k + 1)) = mxV (mxL m (l.take k)) x := by
  have hk := lt_get h
  rw [List.getElem?_eq_getElem hk] at h
  unfold mxL
  rw [List.take_succ_eq_append_getElem hk, List.foldl_append, Option.some.inj h]
  rfl
theorem mx_row {ll : List (List Ver)} {k : Nat} {l : List Ver} (h : ll[k]? = some l) : mxS (ll.take (k + 1)) = mxL (mxS (ll.take k)) l := by
  have hk := lt_get h
  rw [List.getElem?_eq_getElem hk] at h
  unfold mxS
  rw [List.take_succ_eq_append_getElem hk, List.foldl_append, Option.some.inj h]
  rfl
theorem mx_all {m : Int} {l : List Ver} {n : Nat} (h : l.length = n) : mxL m (l.take n) = mxL m l := by rw [List.take_of_length_le (by omega)]
theorem mxS_all {ll : List (List Ver)} {n : Nat} (h : ll.length = n) : mxS (ll.take n) = mxS ll := by rw [List.take_of_length_le (by omega)]
theorem lst_no {ll : List (List Ver)} (h : stB ll = false) : lstS ll = 0 := by simp [lstS, h]
theorem lst_yes {ll : List (List Ver)} (h : stB ll = true) : lstS ll = mxS ll := by simp [lstS, h]
theorem max3 (x y z : Int) (w : World) : (Builtin.max_ #[3, 3, 3] 3 #[.int .i64 x, .int .i64 y, .int .i64 z]).run Tryz.prog w = .ok (.int .i64 (max (max x y) z)) w := by
  have e : (if y > x then y else x) = max x y := by
    rw [Int.max_def]
    split <;> split <;> omega
  have e2 : (if z > max x y then z else max x y) = max (max x y) z := by
    generalize max x y = u
    rw [Int.max_def]
    split <;> split <;> omega
  simp [Builtin.max_, Builtin.max2, e, e2]
theorem iv {a b : Int} (h : a = b) : Value.int .i64 a = .int .i64 b := by rw [h]
set_option maxRecDepth 100000 in
set_option maxHeartbeats 1600000 in
theorem impl_last {w : World} {B n c : Nat} {A : Option Addr} {ll : List (List Ver)} (hn : n ≤ 140737488355328) (h1 : Rs w B A n ll) (hB : B ≤ w.heap.size) :
    Calls Tryz.prog 79 #[.agg #[.slice A n c]] w fun e w' => e = .returned (.int .i64 (lstS ll)) ∧ Below w.heap.size w w' := by
  have H1 := Lib.hid h1
  have hln := h1.1
  clear h1
  rcases hst : stB ll with _ | _
  · have hr := lst_no hst
    have HR := Lib.hid hr
    have HS := Lib.hid hst
    clear hr hst
    go_enter Tryz.func79, Tryz.ntmps79
    go_wp2_with fail
    refine (impl_store hn (H1.out.below (below_le (new1 _ _) hB)) (by simp; omega)).mono ?_
    rintro e W1 ⟨rfl, hb⟩
    rw [HS.out]
    have HB : Hid (Below w.heap.size w W1) := Lib.hid ((new1 w _).trans (hb.mono (by simp)))
    clear hb
    go_wp2_with fail
    go_ret
    exact ⟨ret_i HR.out.symm, HB.out⟩
  have hr := lst_yes hst
  have HR := Lib.hid hr
  have HS := Lib.hid hst
  clear hr hst
  go_enter Tryz.func79, Tryz.ntmps79
  go_wp2_with fail
  have z0 := one_cell w (.slice A n c) 33
  have hb0 := new1 w (.cells #[.slice A n c] 33)
  have hs0 : (w.alloc (.cells #[.slice A n c] 33)).heap.size = w.heap.size + 1 := by simp
  generalize w.alloc _ = w0 at z0 hb0 hs0 ⊢
  refine (impl_store hn (H1.out.below (below_le hb0 hB)) (by omega)).mono ?_
  rintro e W1 ⟨rfl, hb⟩
  rw [HS.out]
  have c0 := (hb.cell (p := ⟨w.heap.size, 0, none⟩) (by simp; omega)).trans z0
  have HB : Hid (Below w.heap.size w W1) := Lib.hid (hb0.trans (hb.mono (by omega)))
  have hs1 := hb.size
  clear hb hb0 z0
  go_wp2_with fail
  clear c0
  go_loopw [3, 14] (fun x i wr => ∃ k : Nat, k ≤ n ∧ i = .int .i64 k ∧ x = .int .i64 (mxS (ll.take k)) ∧ Below w.heap.size w wr) (fun _ i _ => n - (intOf i).toNat)
  case atStart => exact ⟨0, by omega, rfl, rfl, HB.out⟩
  case round =>
    obtain ⟨k, hk, rfl, rfl, hb⟩ := hrel
    by_cases hlt : k < n
    · obtain ⟨b, o, l, A', n', c', rfl, hbB, hx, hcell, hn', hv⟩ := (H1.out.below (below_le hb hB)).at_ hlt
      have HX := Lib.hid hx
      have HV := Lib.hid hv
      have HB2 := Lib.hid hb
      have hl1 := hv.1
      clear hb hx hv
      obtain ⟨m, hm⟩ : ∃ m, mxS (ll.take k) = m := ⟨_, rfl⟩
      rw [hm]
      go_wp2_with fail
      go_loopw [3, 20] (fun x i w2 => ∃ j : Nat, j ≤ n' ∧ i = .int .i64 j ∧ x = .int .i64 (mxL m (l.take j)) ∧ Below wr.heap.size wr w2) (fun _ i _ => n' - (intOf i).toNat)
      case atStart => exact ⟨0, by omega, rfl, rfl, Below.refl _ _⟩
      case round =>
        obtain ⟨j, hj, rfl, rfl, hb⟩ := hrel
        by_cases hlj : j < n'
        · obtain ⟨b2, o2, v, rfl, hb2, hvx, a0, a1, a2, a3, a4⟩ := (HV.out.below (below_le hb (Nat.le_trans hB HB2.out.size))).at_ hlj
          have HVX := Lib.hid hvx
          have HB3 := Lib.hid hb
          clear hb hvx
          obtain ⟨y, hy⟩ : ∃ y, mxL m (l.take j) = y := ⟨_, rfl⟩
          rw [hy]
          have hmx := max3 y v.c v.d
          go_wp2_with fail
          go_roundw
          case rel => exact ⟨j + 1, by omega, by go_num, iv (by rw [mx_step HVX.out, hy]; unfold mxV; omega), HB3.out.alloc HB3.out.size _⟩
          case measure => simp [intOf]; omega
        · obtain rfl : j = n' := by omega
          have HB3 := Lib.hid hb
          clear hb
          go_wp2_with fail
          go_roundw
          case rel => exact ⟨k + 1, by omega, by go_num, iv (by rw [mx_row HX.out, hm, mx_all hl1]), HB2.out.trans (HB3.out.mono HB2.out.size)⟩
          case measure => simp [intOf]; omega
    · obtain rfl : k = n := by omega
      have HB2 := Lib.hid hb
      have ha := mxS_all hln
      rw [ha]
      clear hb
      go_wp2_with fail
      go_ret
      exact ⟨ret_i HR.out.symm, HB2.out⟩
set_option maxRecDepth 100000 in
set_option maxHeartbeats 1600000 in
theorem spec_last {w : World} {B n c : Nat} {A : Option Addr} {ll : List (List Ver)} (hn : n ≤ 140737488355328) (h1 : Rs w B A n ll) (hB : B ≤ w.heap.size) :
    Calls Tryz.prog 44 #[.agg #[.slice A n c]] w fun e w' => e = .returned (.int .i64 (lstS ll)) ∧ Below w.heap.size w w' := by
  have H1 := Lib.hid h1
  have hln := h1.1
  clear h1
  rcases hst : stB ll with _ | _
  · have hr := lst_no hst
    have HR := Lib.hid hr
    have HS := Lib.hid hst
    clear hr hst
    go_enter Tryz.func44, Tryz.ntmps44
    go_wp2
    have z0 := one_cell w (.slice A n c) 33
    have hb0 := new1 w (.cells #[.slice A n c] 33)
    have hs0 : (w.alloc (.cells #[.slice A n c] 33)).heap.size = w.heap.size + 1 := by simp
    generalize w.alloc _ = w0 at z0 hb0 hs0 ⊢
    have HB0 := Lib.hid hb0
    clear hb0
    go_loopw [3, 4] (fun x i wr => x = .int .i64 0 ∧ i = .int .i64 0 ∧ w0 = wr) (fun _ _ _ => 0)
    case atStart => exact ⟨rfl, rfl, rfl⟩
    case round =>
      obtain ⟨rfl, rfl, rfl⟩ := hrel
      by_cases h0 : 0 < n
      · have t : decide (0 < n) = true := decide_eq_true h0
        have t2 : decide ((0 : Int) < (n : Int)) = true := decide_eq_true (by omega)
        go_wp2_with fail
        refine (spec_store hn (H1.out.below (below_le HB0.out hB)) (by omega)).mono ?_
        rintro e W1 ⟨rfl, hb⟩
        rw [HS.out]
        have HB1 : Hid (Below w.heap.size w W1) := Lib.hid (HB0.out.trans (hb.mono (by omega)))
        clear hb
        go_wp2_with fail
        go_ret
        exact ⟨ret_i HR.out.symm, HB1.out⟩
      · have t : decide (0 < n) = false := decide_eq_false h0
        have t2 : decide ((0 : Int) < (n : Int)) = false := decide_eq_false (by omega)
        go_wp2_with fail
        go_ret
        exact ⟨ret_i HR.out.symm, HB0.out⟩
  have hr := lst_yes hst
  have HR := Lib.hid hr
  have HS := Lib.hid hst
  clear hr hst
  go_enter Tryz.func44, Tryz.ntmps44
  go_wp2
  have z0 := one_cell w (.slice A n c) 33
  have hb0 := new1 w (.cells #[.slice A n c] 33)
  have hs0 : (w.alloc (.cells #[.slice A n c] 33)).heap.size = w.heap.size + 1 := by simp
  generalize w.alloc _ = w0 at z0 hb0 hs0 ⊢
  have HB0 := Lib.hid hb0
  have Z0 := Lib.hid z0
  clear hb0 z0
  go_loopw [3, 4] (fun x i wr => ∃ k : Nat, k ≤ n ∧ i = .int .i64 k ∧ x = .int .i64 (mxS (ll.take k)) ∧ Below w0.heap.size w0 wr) (fun _ i _ => n - (intOf i).toNat)
  case atStart => exact ⟨0, by omega, rfl, rfl, Below.refl _ _⟩
  case round =>
    obtain ⟨k, hk, rfl, rfl, hb⟩ := hrel
    have c0 := (hb.cell (p := ⟨w.heap.size, 0, none⟩) (by simp; omega)).trans Z0.out
    have hbw := HB0.out.trans (hb.mono (by omega))
    have hs1 := hb.size
    have HB := Lib.hid hb
    by_cases hlt : k < n
    · have t : decide (k < n) = true := decide_eq_true hlt
      have t2 : decide ((k : Int) < (n : Int)) = true := decide_eq_true (by omega)
      obtain ⟨m, hm⟩ : ∃ m, mxS (ll.take k) = m := ⟨_, rfl⟩
      rw [hm]
      clear hb
      go_wp2_with fail
      refine (spec_store hn (H1.out.below (below_le hbw hB)) (by omega)).mono ?_
      rintro e W1 ⟨rfl, hb⟩
      rw [HS.out]
      have hb1 := HB.out.trans (hb.mono HB.out.size)
      have HB1 := Lib.hid hb1
      have hs2 := hb1.size
      have hbw1 := HB0.out.trans (hb1.mono (by omega))
      have HBw1 := Lib.hid hbw1
      obtain ⟨b, o, l, A', n', c', rfl, hbB, hx, hcell, hn', hv⟩ := (H1.out.below (below_le hbw1 hB)).at_ hlt
      have HX := Lib.hid hx
      have HV := Lib.hid hv
      have HC := Lib.hid hcell
      have hl1 := hv.1
      clear hb hb1 hbw hbw1 hx hv c0 hcell
      go_wp2_with fail
      go_loopw [3, 5] (fun x i w2 => ∃ j : Nat, j ≤ n' ∧ i = .int .i64 j ∧ x = .int .i64 (mxL m (l.take j)) ∧ Below W1.heap.size W1 w2) (fun _ i _ => n' - (intOf i).toNat)
      case atStart => exact ⟨0, by omega, rfl, rfl, Below.refl _ _⟩
      case round =>
        obtain ⟨j, hj, rfl, rfl, hb⟩ := hrel
        have hb2 := HB1.out.trans (hb.mono HB1.out.size)
        have c0 := (hb2.cell (p := ⟨w.heap.size, 0, none⟩) (by simp; omega)).trans Z0.out
        have c1 := (hb.cell (p := ⟨b, o + k, none⟩) (by simp; omega)).trans HC.out
        have HB3 := Lib.hid hb
        by_cases hlj : j < n'
        · obtain ⟨b2, o2, v, rfl, hb2', hvx, a0, a1, a2, a3, a4⟩ := (HV.out.below (below_le hb (by omega))).at_ hlj
          have HVX := Lib.hid hvx
          clear hb hb2 hvx
          obtain ⟨y, hy⟩ : ∃ y, mxL m (l.take j) = y := ⟨_, rfl⟩
          rw [hy]
          have hmx := max3 y v.c v.d
          go_wp2_with fail
          go_quiet (fail)
          go_wp2_with fail
          go_roundw
          case rel => exact ⟨j + 1, by omega, by go_num, iv (by rw [mx_step HVX.out, hy]; unfold mxV; omega), bdrewN HB3.out _⟩
          case measure => simp [intOf]; omega
        · obtain rfl : j = n' := by omega
          clear hb hb2
          go_wp2_with fail
          go_roundw
          case rel => exact ⟨k + 1, by omega, by go_num, iv (by rw [mx_row HX.out, hm, mx_all hl1]), HB1.out.trans (HB3.out.mono HB1.out.size)⟩
          case measure => simp [intOf]; omega
    · obtain rfl : k = n := by omega
      have t : decide (k < k) = false := decide_eq_false (by omega)
      have t2 : decide ((k : Int) < (k : Int)) = false := decide_eq_false (by omega)
      have ha := mxS_all hln
      have HBW := Lib.hid hbw
      rw [ha]
      clear hb hbw
      go_wp2_with fail
      go_ret
      exact ⟨ret_i HR.out.symm, HBW.out⟩
end Go.Proofs.YthbbpfgjbidbhaaGreatDoor.last
/- Chapter 8, plain mathematics: the final window of a transaction. -/
namespace Go.Proofs.YthbbpfgjbidbhaaGreatDoor.em
open Go.Proofs.YthbbpfgjbidbhaaGreatDoor.el2 Go.Proofs.YthbbpfgjbidbhaaGreatDoor.tx Go.Proofs.YthbbpfgjbidbhaaGreatDoor.seq Go.Proofs.YthbbpfgjbidbhaaGreatDoor.tv Go.Proofs.YthbbpfgjbidbhaaGreatDoor.tf Go.Proofs.YthbbpfgjbidbhaaGreatDoor.rx Go.Proofs.YthbbpfgjbidbhaaGreatDoor.rl Go.Proofs.YthbbpfgjbidbhaaGreatDoor.rh Go.Proofs.YthbbpfgjbidbhaaGreatDoor.last
open Go.Proofs.YthbbpfgjbidbhaaGreatDoor.sl (Ver)
open Go.Proofs.YthbbpfgjbidbhaaGreatDoor.val (stB okL_ch_of st_ok st_six)
open Go.Proofs.YthbbpfgjbidbhaaGreatDoor.find (fndI lastV last_yes fnd_hit fnd_step)
open Go.Proofs.YthbbpfgjbidbhaaGreatDoor.ch (chB ch_of okV fol)
set_option linter.unusedVariables false
set_option linter.unusedSimpArgs false
/-! the store's latest version of a written key is the one that its mark names -/
theorem asc {l : List Ver} (h : chB l = true) : ∀ (d i : Nat) (x y : Ver), l[i]? = some x → l[i + d + 1]? = some y → x.c < y.c
  | 0, i, x, y, hx, hy => by
    have := (ch_of h).2.1 i x y hx hy
    simp [fol, Go.Proofs.YthbbpfgjbidbhaaGreatDoor.vers.fB] at this
    exact this.1
  | d + 1, i, x, y, hx, hy => by
    have hl := lt_get hy
    have hz : l[i + 1]? = some (l[i + 1]'(by omega)) := List.getElem?_eq_getElem _
    have h1 := asc h 0 i x _ hx hz
    have h2 := asc h d (i + 1) _ y hz (by rw [show i + 1 + d + 1 = i + (d + 1) + 1 by omega]; exact hy)
    omega
theorem fnd_upto {l : List Ver} {c : Int} : ∀ k, k ≤ l.length → (∀ (j : Nat) (x : Ver), j < k → l[j]? = some x → x.c ≠ c) → fndI c l 0 = fndI c (l.drop k) k
  | 0, _, _ => rfl
  | k + 1, h, hn => by
    have hx : l[k]? = some l[k] := List.getElem?_eq_getElem (by omega)
    exact fnd_step (fnd_upto k (by omega) (fun j x hj => hn j x (by omega))) hx (hn k _ (by omega) hx)
theorem okV_parts {x : Ver} (h : okV x = true) : 0 ≤ x.c ∧ x.c ≤ 999 ∧ 0 ≤ x.d ∧ x.d ≤ 999 ∧ 1 ≤ x.e ∧ x.e ≤ 1000 := by
  simp only [okV, Go.Proofs.YthbbpfgjbidbhaaGreatDoor.vers.vB, decide_eq_true_eq] at h
  obtain ⟨_, _, c1, c2, c3, c4, c5, c6, _⟩ := h
  omega
section
variable {C : List (List Ver)} {x : Hd} {R S : List E2}
theorem chain_key (hs : stB C = true) {k : Int} (h0 : 0 ≤ k) (h5 : k ≤ 5) : ∃ l, C[k.toNat]? = some l ∧ chB l = true ∧ chOf C k = l := by
  have h6 := st_six hs
  have hk : k.toNat < C.length := by omega
  have hg := List.getElem?_eq_getElem hk
  exact ⟨_, hg, okL_ch_of (st_ok hs hg), ch_at hg⟩
theorem last_at {l : List Ver} (hc : chB l = true) : ∃ y, l[l.length - 1]? = some y ∧ lastV l = y ∧ okV y = true ∧ fndI y.c l 0 = ((l.length - 1 : Nat) : Int) := by
  obtain ⟨h1, _, y, hy, _⟩ := ch_of hc
  refine ⟨y, hy, last_yes hc hy, h1 _ _ hy, ?_⟩
  have hu := fnd_upto (l := l) (c := y.c) (l.length - 1) (by omega) (fun j z hj hz e => by
    have := asc hc (l.length - 1 - j - 1) j z y hz (by rw [show j + (l.length - 1 - j - 1) + 1 = l.length - 1 by omega]; exact hy)
    omega)
  exact (fnd_hit hu hy rfl).symm
theorem lat_ok (hs : stB C = true) {m : E2} (h0 : 0 ≤ m.a) (h5 : m.a ≤ 5) : okV (latOf C m) = true := by
  obtain ⟨l, hl, hc, hch⟩ := chain_key hs h0 h5
  obtain ⟨y, _, hy, ho, _⟩ := last_at hc
  unfold latOf
  rw [hch, hy]; exact ho
/-! the ends of the final window -/
/-- the stamp may be given to a commit now -/
noncomputable def unB (C : List (List Ver)) (z : Int) : Bool := decide (lstS C < z) && decide (z ≤ 999)
noncomputable def fwB (C : List (List Ver)) (x : Hd) (R S : List E2) (z : Int) : Bool := rexB C x R S && decide (x.t = 1) && unB C z
noncomputable def fwL (C : List (List Ver)) (x : Hd) (R S : List E2) (z : Int) : Int := if fwB C x R S z = true then max x.l (rlI C x R S) else 0
noncomputable def fwH (C : List (List Ver)) (x : Hd) (R S : List E2) (z : Int) : Int := if fwB C x R S z = true then min (min x.h (rhI C x R S)) z else 0
theorem fwL_yes {z : Int} (h : fwB C x R S z = true) : fwL C x R S z = max x.l (rlI C x R S) := if_pos h
theorem fwH_yes {z : Int} (h : fwB C x R S z = true) : fwH C x R S z = min (min x.h (rhI C x R S)) z := if_pos h
theorem fwL_no {z : Int} (h : fwB C x R S z = false) : fwL C x R S z = 0 := if_neg (by rw [h]; exact Bool.false_ne_true)
theorem fwH_no {z : Int} (h : fwB C x R S z = false) : fwH C x R S z = 0 := if_neg (by rw [h]; exact Bool.false_ne_true)
theorem fw_rex {z : Int} (h : rexB C x R S = false) : fwB C x R S z = false := by simp [fwB, h]
theorem fw_act {z : Int} (h : ¬ x.t = 1) : fwB C x R S z = false := by simp [fwB, h]
theorem fw_un {z : Int} (h : unB C z = false) : fwB C x R S z = false := by simp [fwB, h]
theorem fw_all {z : Int} (h : rexB C x R S = true) (h1 : x.t = 1) (h2 : unB C z = true) : fwB C x R S z = true := by simp [fwB, h, h1, h2]
theorem fw_parts {z : Int} (h : fwB C x R S z = true) : rexB C x R S = true ∧ x.t = 1 ∧ unB C z = true := by
  simp only [fwB, Bool.and_eq_true, decide_eq_true_eq] at h
  exact ⟨h.1.1, h.1.2, h.2⟩
theorem rex_both (h : rexB C x R S = true) : bothB C x R S = true := by
  obtain ⟨h1, h2, _⟩ := rex_parts h
  exact both_yes h1 h2
/-! bounds -/
theorem mxL_range {l : List Ver} (h : ∀ v ∈ l, okV v = true) : ∀ m : Int, 0 ≤ m → m ≤ 999 → 0 ≤ mxL m l ∧ mxL m l ≤ 999 := by
  induction l with
  | nil => intro m h0 h1; exact ⟨h0, h1⟩
  | cons v r ih =>
    intro m h0 h1
    obtain ⟨a1, a2, a3, a4, _⟩ := okV_parts (h v (by simp))
    exact ih (fun u hu => h u (by simp [hu])) (mxV m v) (by unfold mxV; omega) (by unfold mxV; omega)
theorem mxS_range {C : List (List Ver)} (h : ∀ l ∈ C, ∀ v ∈ l, okV v = true) : ∀ m : Int, 0 ≤ m → m ≤ 999 → 0 ≤ C.foldl mxL m ∧ C.foldl mxL m ≤ 999 := by
  induction C with
  | nil => intro m h0 h1; exact ⟨h0, h1⟩
  | cons l r ih =>
    intro m h0 h1
    obtain ⟨b0, b1⟩ := mxL_range (h l (by simp)) m h0 h1
    exact ih (fun u hu => h u (by simp [hu])) (mxL m l) b0 b1
theorem st_vers (hs : stB C = true) : ∀ l ∈ C, ∀ v ∈ l, okV v = true := by
  intro l hl v hv
  obtain ⟨j, hj, rfl⟩ := List.getElem_of_mem hl
  obtain ⟨i, hi, rfl⟩ := List.getElem_of_mem hv
  exact (ch_of (okL_ch_of (st_ok hs (List.getElem?_eq_getElem hj)))).1 i _ (List.getElem?_eq_getElem hi)
theorem lst_range (C : List (List Ver)) : 0 ≤ lstS C ∧ lstS C ≤ 999 := by
  rcases hs : stB C with _ | _
  · rw [lst_no hs]; omega
  · rw [lst_yes hs]; exact mxS_range (st_vers hs) 0 (by omega) (by omega)
/-- the model's own test of the stamp -/
theorem un_spec (C : List (List Ver)) (z : Int) : (decide (lstS C + 1 ≤ z) && decide (z ≤ 999)) = unB C z := by
  unfold unB
  congr 1
theorem hdB_range {x : Hd} {R S : List E2} (h : txB x R S = true) : 0 ≤ x.l ∧ x.l ≤ 999 ∧ 1 ≤ x.h ∧ x.h ≤ 1000 := by
  simp only [txB, hdB, Go.Proofs.YthbbpfgjbidbhaaGreatDoor.vers.In, Bool.and_eq_true, decide_eq_true_eq] at h
  omega
theorem foldmax_range (P : List Int) (h : ∀ p ∈ P, p ≤ 999) : ∀ n : Int, 0 ≤ n → n ≤ 999 → 0 ≤ P.foldl (fun a p => max a p) n ∧ P.foldl (fun a p => max a p) n ≤ 999 := by
  induction P with
  | nil => intro n h0 h1; exact ⟨h0, h1⟩
  | cons p r ih =>
    intro n h0 h1
    have := h p (by simp)
    exact ih (fun q hq => h q (by simp [hq])) (max n p) (by omega) (by omega)
theorem rl_range (C : List (List Ver)) (x : Hd) (R S : List E2) : 0 ≤ rlI C x R S ∧ rlI C x R S ≤ 999 := by
  rcases hb : bothB C x R S with _ | _
  · rw [← rl_no hb]; omega
  · obtain ⟨hs, ht⟩ := both_parts hb
    have hR : ∀ p ∈ R.map (fun m => m.b), p ≤ 999 := by
      intro p hp
      rw [List.mem_map] at hp
      obtain ⟨m, hm, rfl⟩ := hp
      obtain ⟨j, hj, rfl⟩ := List.getElem_of_mem hm
      have := rd_ok (tx_rd ht) (List.getElem?_eq_getElem hj)
      simp only [okR, Go.Proofs.YthbbpfgjbidbhaaGreatDoor.vers.In, Bool.and_eq_true, decide_eq_true_eq] at this
      exact this.2.2
    have hS : ∀ p ∈ S.map (fun m => (latOf C m).d), p ≤ 999 := by
      intro p hp
      rw [List.mem_map] at hp
      obtain ⟨m, hm, rfl⟩ := hp
      obtain ⟨j, hj, rfl⟩ := List.getElem_of_mem hm
      have hk := wkey_of ht (List.getElem?_eq_getElem hj)
      have := okV_parts (lat_ok hs hk.1 hk.2)
      omega
    have h1 := foldmax_range _ hR 0 (by omega) (by omega)
    have h2 := foldmax_range _ hS _ h1.1 h1.2
    rw [List.foldl_map, List.foldl_map] at h2
    rw [rlI, if_pos hb]
    unfold loW loR
    rw [List.take_of_length_le (Nat.le_refl _), List.take_of_length_le (Nat.le_refl _)]
    exact h2
theorem hi_range (C : List (List Ver)) (L : List E2) (h : ∀ m ∈ L, 1 ≤ (verOf C m).e) : ∀ n : Int, 0 ≤ n → n ≤ 1000 → 0 ≤ L.foldl (fun h m => min h (verOf C m).e) n ∧ L.foldl (fun h m => min h (verOf C m).e) n ≤ 1000 := by
  induction L with
  | nil => intro n h0 h1; exact ⟨h0, h1⟩
  | cons m r ih =>
    intro n h0 h1
    have := h m (by simp)
    exact ih (fun q hq => h q (by simp [hq])) (min n (verOf C m).e) (by omega) (by omega)
theorem rh_range (C : List (List Ver)) (x : Hd) (R S : List E2) : 0 ≤ rhI C x R S ∧ rhI C x R S ≤ 1000 := by
  rcases hb : rexB C x R S with _ | _
  · rw [← rh_no hb]; omega
  · obtain ⟨hs, ht, hall⟩ := rex_parts hb
    rw [rhI, if_pos hb]
    unfold hiK
    rw [List.take_of_length_le (Nat.le_refl _)]
    refine hi_range C R (fun m hm => ?_) 1000 (by omega) (by omega)
    obtain ⟨j, hj, rfl⟩ := List.getElem_of_mem hm
    have hx := List.getElem?_eq_getElem hj
    have hk := key_of ht hx
    have hh := all_at hall hx
    obtain ⟨l, hl, hc, hch⟩ := chain_key hs hk.1 hk.2
    unfold hasV at hh
    rw [hch] at hh
    obtain ⟨i, hi, hil⟩ := fnd_lt (of_decide_eq_true hh)
    have hv := List.getElem?_eq_getElem hil
    rw [ver_at hl hi hv]
    exact (okV_parts ((ch_of hc).1 i _ hv)).2.2.2.2.1
theorem fwL_range (C : List (List Ver)) (x : Hd) (R S : List E2) (z : Int) : 0 ≤ fwL C x R S z ∧ fwL C x R S z ≤ 999 := by
  rcases h : fwB C x R S z with _ | _
  · rw [fwL_no h]; omega
  · rw [fwL_yes h]
    have h1 := rl_range C x R S
    have h2 := hdB_range (rex_parts (fw_parts h).1).2.1
    omega
theorem fwH_range (C : List (List Ver)) (x : Hd) (R S : List E2) (z : Int) : 0 ≤ fwH C x R S z ∧ fwH C x R S z ≤ 1000 := by
  rcases h : fwB C x R S z with _ | _
  · rw [fwH_no h]; omega
  · rw [fwH_yes h]
    have h1 := rh_range C x R S
    have h2 := hdB_range (rex_parts (fw_parts h).1).2.1
    have h3 := (fw_parts h).2.2
    have h4 := lst_range C
    simp only [unB, Bool.and_eq_true, decide_eq_true_eq] at h3
    omega
/-- may the transaction commit -/
noncomputable def mayB (C : List (List Ver)) (x : Hd) (R S : List E2) (z : Int) : Bool := fwB C x R S z && decide (fwL C x R S z < fwH C x R S z)
theorem may_no {z : Int} (h : fwB C x R S z = false) : mayB C x R S z = false := by simp [mayB, h]
theorem may_is {z : Int} (h : fwB C x R S z = true) : mayB C x R S z = decide (fwL C x R S z < fwH C x R S z) := by simp [mayB, h]
/-- the room -/
noncomputable def roomI (C : List (List Ver)) (x : Hd) (R S : List E2) (z : Int) : Int := fwH C x R S z - fwL C x R S z
theorem room_may {z : Int} : decide (0 < roomI C x R S z) = mayB C x R S z := by
  rcases h : fwB C x R S z with _ | _
  · rw [may_no h]
    unfold roomI
    rw [fwL_no h, fwH_no h]
    rfl
  · rw [may_is h]
    unfold roomI
    exact decide_eq_decide.2 (by omega)
end
end Go.Proofs.YthbbpfgjbidbhaaGreatDoor.em
/- Chapter 9, plain mathematics: what a commit makes of a store and of a transaction. -/
namespace Go.Proofs.YthbbpfgjbidbhaaGreatDoor.ct
open Go.Proofs.YthbbpfgjbidbhaaGreatDoor.el2 Go.Proofs.YthbbpfgjbidbhaaGreatDoor.tx Go.Proofs.YthbbpfgjbidbhaaGreatDoor.seq Go.Proofs.YthbbpfgjbidbhaaGreatDoor.tv Go.Proofs.YthbbpfgjbidbhaaGreatDoor.tf Go.Proofs.YthbbpfgjbidbhaaGreatDoor.rx Go.Proofs.YthbbpfgjbidbhaaGreatDoor.rl Go.Proofs.YthbbpfgjbidbhaaGreatDoor.rh Go.Proofs.YthbbpfgjbidbhaaGreatDoor.last Go.Proofs.YthbbpfgjbidbhaaGreatDoor.em
open Go.Proofs.YthbbpfgjbidbhaaGreatDoor.sl (Ver)
open Go.Proofs.YthbbpfgjbidbhaaGreatDoor.val (stB okL okL_ch_of st_ok st_six)
open Go.Proofs.YthbbpfgjbidbhaaGreatDoor.find (fndI lastV)
open Go.Proofs.YthbbpfgjbidbhaaGreatDoor.ch (chB ch_of ch_yes ChP okV fol)
set_option linter.unusedVariables false
set_option linter.unusedSimpArgs false
/-- a version that is read at the stamp -/
def rdV (z : Int) (v : Ver) : Ver := ⟨v.a, v.b, v.c, max v.d z, v.e⟩
/-- a version that is overwritten -/
def suV (h : Int) (v : Ver) : Ver := ⟨v.a, v.b, v.c, v.d, h⟩
/-- the version that a write installs -/
def nwV (i z : Int) (m : E2) : Ver := ⟨i, m.b, z, z, 1000⟩
/-- the row with its element j changed -/
def atJ (f : Ver → Ver) (l : List Ver) (j : Nat) : List Ver := l.set j (f (l.getD j default))
/-- a chain with the version created at c read -/
def rdL (z c : Int) (l : List Ver) : List Ver := atJ (rdV z) l (fndI c l 0).toNat
/-- a chain with a version appended -/
def wrL (h : Int) (v : Ver) (l : List Ver) : List Ver := atJ (suV h) l (l.length - 1) ++ [v]
/-- the store with the row k changed -/
def onK (f : List Ver → List Ver) (C : List (List Ver)) (k : Int) : List (List Ver) := C.set k.toNat (f (chOf C k))
def rdC (z : Int) (C : List (List Ver)) (m : E2) : List (List Ver) := onK (rdL z m.b) C m.a
def wrC (i z h : Int) (C : List (List Ver)) (m : E2) : List (List Ver) := onK (wrL h (nwV i z m)) C m.a
def rdK (z : Int) (C : List (List Ver)) (R : List E2) (k : Nat) : List (List Ver) := (R.take k).foldl (rdC z) C
def wrK (i z h : Int) (C : List (List Ver)) (S : List E2) (k : Nat) : List (List Ver) := (S.take k).foldl (wrC i z h) C
/-- the store behind the commit -/
def insC (C : List (List Ver)) (i z h : Int) (R S : List E2) : List (List Ver) := wrK i z h (rdK z C R R.length) S S.length
/-- no chain would be too long -/
def fitB (C : List (List Ver)) (S : List E2) : Bool := S.all fun m => decide ((chOf C m.a).length < 50)
noncomputable def cmB (C : List (List Ver)) (x : Hd) (R S : List E2) (z : Int) : Bool := mayB C x R S z && fitB C S
noncomputable def cmC (C : List (List Ver)) (x : Hd) (R S : List E2) (z : Int) : List (List Ver) := if cmB C x R S z = true then insC C x.i z (fwH C x R S z) R S else C
noncomputable def cmX (C : List (List Ver)) (x : Hd) (R S : List E2) (z : Int) : Hd := if cmB C x R S z = true then ⟨x.i, x.s, 2, x.b, fwL C x R S z, fwH C x R S z, z⟩ else x
section
variable {C : List (List Ver)} {x : Hd} {R S : List E2} {z h i : Int} {l : List Ver}
theorem rdK_step {k : Nat} {y : E2} (hx : R[k]? = some y) : rdK z C R (k + 1) = rdC z (rdK z C R k) y := by
  unfold rdK
  rw [List.take_add_one, hx]
  simp [List.foldl_append]
theorem wrK_step {k : Nat} {y : E2} (hx : S[k]? = some y) : wrK i z h C S (k + 1) = wrC i z h (wrK i z h C S k) y := by
  unfold wrK
  rw [List.take_add_one, hx]
  simp [List.foldl_append]
theorem atJ_len (f : Ver → Ver) (l : List Ver) (j : Nat) : (atJ f l j).length = l.length := by simp [atJ]
theorem atJ_at {f : Ver → Ver} {l : List Ver} {j : Nat} {v : Ver} (hv : l[j]? = some v) : atJ f l j = l.set j (f v) := by simp [atJ, List.getD, hv]
theorem atJ_get {f : Ver → Ver} {l : List Ver} {j k : Nat} {u : Ver} (hu : (atJ f l j)[k]? = some u) : ∃ v, l[k]? = some v ∧ u = (if k = j then f v else v) := by
  have hk : k < l.length := by have := lt_get hu; rw [atJ_len] at this; exact this
  refine ⟨l[k], List.getElem?_eq_getElem hk, ?_⟩
  unfold atJ at hu
  rw [List.getElem?_set] at hu
  by_cases e : j = k
  · subst e
    rw [if_pos rfl, if_pos hk] at hu
    injection hu with hu
    rw [if_pos rfl, ← hu]
    simp [List.getD, List.getElem?_eq_getElem hk]
  · rw [if_neg e, List.getElem?_eq_getElem hk] at hu
    injection hu with hu
    rw [if_neg (fun e' => e e'.symm)]
    exact hu.symm
theorem onK_len (f : List Ver → List Ver) (C : List (List Ver)) (k : Int) : (onK f C k).length = C.length := by simp [onK]
theorem chOf_onK {f : List Ver → List Ver} {C : List (List Ver)} {k k' : Int} (h0 : 0 ≤ k) (h0' : 0 ≤ k') (hk : k.toNat < C.length) : chOf (onK f C k) k' = if k' = k then f (chOf C k) else chOf C k' := by
  by_cases e : k' = k
  · subst e
    rw [if_pos rfl]
    simp [chOf, onK, List.getD, List.getElem?_set_self hk]
  · rw [if_neg e]
    have hne : k.toNat ≠ k'.toNat := by omega
    simp [chOf, onK, List.getD, List.getElem?_set_ne hne]
/-! what a chain keeps when it is read: all but the readers -/
/-- the same but for the readers, which are between the old one and z -/
def Like (z : Int) (l l' : List Ver) : Prop := l'.length = l.length ∧ ∀ (k : Nat) (v v' : Ver), l[k]? = some v → l'[k]? = some v' → v'.a = v.a ∧ v'.b = v.b ∧ v'.c = v.c ∧ v'.e = v.e ∧ v.d ≤ v'.d ∧ (v'.d = v.d ∨ v'.d ≤ z)
theorem Like.refl (z : Int) (l : List Ver) : Like z l l := ⟨rfl, fun k v v' h h' => by
  rw [h] at h'
  injection h' with h'
  subst h'
  exact ⟨rfl, rfl, rfl, rfl, Int.le_refl _, .inl rfl⟩⟩
theorem Like.trans {l l' l'' : List Ver} (h : Like z l l') (h2 : Like z l' l'') : Like z l l'' := ⟨h2.1.trans h.1, fun k v v'' hv hv'' => by
  have hk : k < l'.length := by have := lt_get hv; rw [h.1]; exact this
  have hv' := List.getElem?_eq_getElem hk
  obtain ⟨a1, a2, a3, a4, a5, a6⟩ := h.2 k v _ hv hv'
  obtain ⟨b1, b2, b3, b4, b5, b6⟩ := h2.2 k _ v'' hv' hv''
  refine ⟨b1.trans a1, b2.trans a2, b3.trans a3, b4.trans a4, Int.le_trans a5 b5, ?_⟩
  rcases b6 with e | e
  · rcases a6 with e2 | e2
    · exact .inl (e.trans e2)
    · exact .inr (by omega)
  · exact .inr e⟩
theorem like_rd {l : List Ver} (z c : Int) (hz : ∀ v ∈ l, v.d ≤ z) : Like z l (rdL z c l) := ⟨atJ_len _ _ _, fun k v v' hv hv' => by
  obtain ⟨u, hu, e⟩ := atJ_get hv'
  rw [hv] at hu
  injection hu with hu
  subst hu
  have := hz v (List.mem_of_getElem? hv)
  split at e
  · subst e
    exact ⟨rfl, rfl, rfl, rfl, by simp only [rdV]; omega, .inr (by simp only [rdV]; omega)⟩
  · subst e
    exact ⟨rfl, rfl, rfl, rfl, Int.le_refl _, .inl rfl⟩⟩
theorem like_le {l l' : List Ver} (h : Like z l l') (hz : ∀ v ∈ l, v.d ≤ z) : ∀ v ∈ l', v.d ≤ z := by
  intro v hv
  obtain ⟨k, hk, rfl⟩ := List.getElem_of_mem hv
  have hk2 : k < l.length := by rw [← h.1]; exact hk
  obtain ⟨_, _, _, _, _, e⟩ := h.2 k _ _ (List.getElem?_eq_getElem hk2) (List.getElem?_eq_getElem hk)
  rcases e with e | e
  · rw [e]; exact hz _ (List.getElem_mem hk2)
  · exact e
/-- where a creation stands does not turn -/
theorem like_fnd {c : Int} : ∀ {l l' : List Ver} (k : Nat), Like z l l' → fndI c l' k = fndI c l k
  | [], [], k, _ => rfl
  | [], _ :: _, k, h => by simp [Like] at h
  | _ :: _, [], k, h => by simp [Like] at h
  | v :: r, v' :: r', k, h => by
    obtain ⟨_, _, e, _⟩ := h.2 0 v v' (by simp) (by simp)
    have ht : Like z r r' := ⟨by have := h.1; simpa using this, fun j u u' hu hu' => h.2 (j + 1) u u' (by simpa using hu) (by simpa using hu')⟩
    unfold fndI
    rw [e, like_fnd (k + 1) ht]
/-- a chain that is like a valid one is valid -/
theorem like_ch {l l' : List Ver} (h : Like z l l') (hz : z ≤ 999) (hc : chB l = true) : chB l' = true := by
  obtain ⟨h1, h2, y, hy, he⟩ := ch_of hc
  refine ch_yes ⟨fun k v' hv' => ?_, fun k u' v' hu' hv' => ?_, ?_⟩
  · have hk : k < l.length := by have := lt_get hv'; rw [h.1] at this; exact this
    have hv := List.getElem?_eq_getElem hk
    obtain ⟨a1, a2, a3, a4, a5, a6⟩ := h.2 k _ v' hv hv'
    have ho := h1 k _ hv
    simp only [okV, Go.Proofs.YthbbpfgjbidbhaaGreatDoor.vers.vB, decide_eq_true_eq] at ho ⊢
    rw [a1, a2, a3, a4]
    obtain ⟨o1, o2, o3, o4, o5, o6, o7, o8, o9, o10⟩ := ho
    refine ⟨o1, o2, o3, o4, by omega, by omega, o7, o8, o9, o10⟩
  · have hk : k + 1 < l.length := by have := lt_get hv'; rw [h.1] at this; exact this
    have hu := List.getElem?_eq_getElem (show k < l.length by omega)
    have hv := List.getElem?_eq_getElem hk
    obtain ⟨_, _, u3, u4, _⟩ := h.2 k _ u' hu hu'
    obtain ⟨_, _, v3, _⟩ := h.2 (k + 1) _ v' hv hv'
    have hf := h2 k _ _ hu hv
    simp only [fol, Go.Proofs.YthbbpfgjbidbhaaGreatDoor.vers.fB] at hf ⊢
    rw [u3, u4, v3]
    exact hf
  · have hk := lt_get hy
    have hk' : l'.length - 1 < l'.length := by rw [h.1]; omega
    refine ⟨_, List.getElem?_eq_getElem hk', ?_⟩
    obtain ⟨_, _, _, e, _⟩ := h.2 (l'.length - 1) y _ (by rw [h.1]; exact hy) (List.getElem?_eq_getElem hk')
    rw [e]; exact he
end
/-- a version whose successor is set -/
theorem su_ok {h : Int} {v : Ver} (hv : okV v = true) (h1 : 1 ≤ h) (h2 : h ≤ 1000) : okV (suV h v) = true := by
  simp only [okV, Go.Proofs.YthbbpfgjbidbhaaGreatDoor.vers.vB, decide_eq_true_eq] at hv
  refine decide_eq_true (show Go.Proofs.YthbbpfgjbidbhaaGreatDoor.vers.vP v.a v.b v.c v.d h from ?_)
  obtain ⟨o1, o2, o3, o4, o5, o6, o7, o8, o9, o10⟩ := hv
  exact ⟨o1, o2, o3, o4, o5, o6, h1, h2, o9, o10⟩
/-- what a write makes of a valid chain is valid -/
theorem wr_ch {l : List Ver} {v : Ver} {h : Int} (hc : chB l = true) (hv : okV v = true) (he : v.e = 1000) (h1 : 1 ≤ h) (h2 : h ≤ v.c) (hl : (lastV l).c < v.c) : chB (wrL h v l) = true := by
  obtain ⟨p1, p2, _⟩ := ch_of hc
  obtain ⟨y, hy, hly, hyo, _⟩ := last_at hc
  rw [hly] at hl
  have hn := lt_get hy
  have hv9 : h ≤ 1000 := by have := okV_parts hv; omega
  have hw : wrL h v l = l.set (l.length - 1) (suV h y) ++ [v] := by unfold wrL; rw [atJ_at hy]
  have hlen : (wrL h v l).length = l.length + 1 := by rw [hw]; simp
  have hlast : (wrL h v l)[l.length]? = some v := by rw [hw, List.getElem?_append_right (by simp)]; simp
  have hbe : ∀ k, k < l.length → (wrL h v l)[k]? = if k = l.length - 1 then some (suV h y) else l[k]? := by
    intro k hk
    rw [hw, List.getElem?_append_left (by simpa using hk), List.getElem?_set]
    by_cases hj : l.length - 1 = k
    · rw [if_pos hj, if_pos (by omega), if_pos hj.symm]
    · rw [if_neg hj, if_neg (fun e => hj e.symm)]
  refine ch_yes ⟨fun k x hx => ?_, fun k x x' hx hx' => ?_, ⟨v, by rw [hlen]; exact hlast, he⟩⟩
  · have hk := lt_get hx
    rw [hlen] at hk
    by_cases hkl : k = l.length
    · subst hkl; rw [hlast] at hx; cases hx; exact hv
    · rw [hbe k (by omega)] at hx
      by_cases hj : k = l.length - 1
      · rw [if_pos hj] at hx; cases hx; exact su_ok hyo h1 hv9
      · rw [if_neg hj] at hx; exact p1 k x hx
  · have hk := lt_get hx'
    rw [hlen] at hk
    rw [hbe k (by omega)] at hx
    by_cases hj : k = l.length - 1
    · rw [if_pos hj] at hx; cases hx
      rw [show k + 1 = l.length by omega, hlast] at hx'; cases hx'
      show (decide (y.c < v.c) && decide (h ≤ v.c)) = true
      rw [decide_eq_true hl, decide_eq_true h2]; rfl
    · rw [if_neg hj] at hx
      rw [hbe (k + 1) (by omega)] at hx'
      by_cases hj' : k + 1 = l.length - 1
      · rw [if_pos hj'] at hx'; cases hx'
        have hf := p2 k x y hx (by rw [hj']; exact hy)
        exact hf
      · rw [if_neg hj'] at hx'
        exact p2 k x x' hx hx'
end Go.Proofs.YthbbpfgjbidbhaaGreatDoor.ct
/- A store of one's own: a chain of it; a version read, a version superseded, a version installed. -/
namespace Go.Proofs.YthbbpfgjbidbhaaGreatDoor.oc
open Go.ChangeShapes Go.WideShapes Go.ChangeAt Go.RowKit
open Go.Proofs.YthbbpfgjbidbhaaGreatDoor.sl Go.Proofs.YthbbpfgjbidbhaaGreatDoor.st Go.Proofs.YthbbpfgjbidbhaaGreatDoor.flat Go.Proofs.YthbbpfgjbidbhaaGreatDoor.os Go.Proofs.YthbbpfgjbidbhaaGreatDoor.oq Go.Proofs.YthbbpfgjbidbhaaGreatDoor.av
open Go.Proofs.YthbbpfgjbidbhaaGreatDoor.el2 (new1 E2)
open Go.Proofs.YthbbpfgjbidbhaaGreatDoor.rx (chOf ch_at)
open Go.Proofs.YthbbpfgjbidbhaaGreatDoor.find (fndI)
open Go.Proofs.YthbbpfgjbidbhaaGreatDoor.ct (rdV suV nwV atJ rdL wrL onK rdC wrC atJ_at atJ_len)
set_option linter.unusedVariables false
set_option linter.unusedSimpArgs false
theorem flat_cons (x : Ver) (l : List Ver) : flat (x :: l) = .int .i64 x.a :: .int .i64 x.b :: .int .i64 x.c :: .int .i64 x.d :: .int .i64 x.e :: flat l := by simp [flat]
theorem flat_set3 : ∀ (l : List Ver) (j : Nat) (x : Ver) (z : Int), l[j]? = some x → flat (l.set j ⟨x.a, x.b, x.c, z, x.e⟩) = (flat l).set (j * 5 + 3) (.int .i64 z)
  | [], j, x, z, h => by simp at h
  | y :: r, 0, x, z, h => by
    simp only [List.getElem?_cons_zero, Option.some.injEq] at h
    subst h
    rw [List.set_cons_zero, flat_cons, flat_cons]
    rfl
  | y :: r, j + 1, x, z, h => by
    have ih := flat_set3 r j x z (by simpa using h)
    rw [List.set_cons_succ, flat_cons, flat_cons, ih, show (j + 1) * 5 + 3 = (j * 5 + 3) + 1 + 1 + 1 + 1 + 1 by omega]
    rfl
theorem flat_set4 : ∀ (l : List Ver) (j : Nat) (x : Ver) (z : Int), l[j]? = some x → flat (l.set j ⟨x.a, x.b, x.c, x.d, z⟩) = (flat l).set (j * 5 + 4) (.int .i64 z)
  | [], j, x, z, h => by simp at h
  | y :: r, 0, x, z, h => by
    simp only [List.getElem?_cons_zero, Option.some.injEq] at h
    subst h
    rw [List.set_cons_zero, flat_cons, flat_cons]
    rfl
  | y :: r, j + 1, x, z, h => by
    have ih := flat_set4 r j x z (by simpa using h)
    rw [List.set_cons_succ, flat_cons, flat_cons, ih, show (j + 1) * 5 + 4 = (j * 5 + 4) + 1 + 1 + 1 + 1 + 1 by omega]
    rfl
section
variable {w w' : World} {Q : Nat → Prop} {n : Nat} {v : Value} {C : List (List Ver)}
/-- where a chain of it lies -/
structure Lies (w : World) (Q : Nat → Prop) (v : Value) (n k : Nat) (l : List Ver) (g cap b c : Nat) : Prop where
  out : v = .slice (some ⟨g, 0, none⟩) n cap
  qg : Q g
  gl : g < w.heap.size
  qb : Q b
  bl : b < w.heap.size
  ne : g ≠ b
  cell : w.cell? ⟨g, k, none⟩ = some (.slice (some ⟨b, 0, none⟩) l.length c)
  free : w.frozen? ⟨g, k, none⟩ = false
  free2 : ∀ i, w.frozen? ⟨b, i, none⟩ = false
  own : w.ownsRow 0 81 5 (.slice (some ⟨b, 0, none⟩) l.length c) l.length (flat l)
  vs : Vs w w.heap.size (some ⟨b, 0, none⟩) l.length l
theorem OQ.chain (h : OQ w Q v n C) {k : Nat} (hk : k < n) {l : List Ver} (hl : C[k]? = some l) (hp : 0 < l.length) : ∃ g cap b c, Lies w Q v n k l g cap b c := by
  obtain ⟨g, cap, A, m, c, l2, rfl, hqg, hgl, hl2, hm, hc, hf, hr, hq⟩ := h.at_ hk
  rw [hl] at hl2
  injection hl2 with hl2
  subst hl2
  subst hm
  obtain ⟨b, cb, hb, h0, hlt⟩ := hr.form hp
  injection hb with hb _ hb2
  subst hb hb2
  obtain ⟨A3, c3, he, hvs⟩ := own_vs hr rfl
  injection he with he _ _
  subst he
  obtain ⟨vals, h1, _⟩ := h
  exact ⟨g, cap, b, c, rfl, hqg, hgl, hq b rfl, hlt, fun e => row_ne h1 hr rfl (by rw [e]; rfl), hc, hf, fun i => hr.frozenAt i, hr, hvs⟩
variable {k g cap b c : Nat} {l : List Ver}
theorem Lies.at_ (h : Lies w Q v n k l g cap b c) {j : Nat} {x : Ver} (hx : l[j]? = some x) : At w b (j * 5) x := by
  have hj := lt_of_some hx
  obtain ⟨b', o', e, _, hat⟩ := h.vs.2 (by omega)
  injection e with e
  injection e with e1 e2
  subst e1 e2
  have := hat j x hx
  rw [Nat.zero_add] at this
  exact this
theorem Lies.keep (h : Lies w Q v n k l g cap b c) (hb : Below w.heap.size w w') : Lies w' Q v n k l g cap b c where
  out := h.out
  qg := h.qg
  gl := Nat.lt_of_lt_of_le h.gl hb.size
  qb := h.qb
  bl := Nat.lt_of_lt_of_le h.bl hb.size
  ne := h.ne
  cell := (hb.cell (p := ⟨g, k, none⟩) h.gl).trans h.cell
  free := (hb.frozen (p := ⟨g, k, none⟩) h.gl).trans h.free
  free2 := fun i => (hb.frozen (p := ⟨b, i, none⟩) h.bl).trans (h.free2 i)
  own := own_keep h.own hb
  vs := (h.vs.below hb).more hb.size
/-- it lies there when a cell of its row has been written -/
theorem Lies.set (h : Lies w Q v n k l g cap b c) {j : Nat} {l' : List Ver} {u : Value} (hl' : l'.length = l.length) (hf : flat l' = (flat l).set j u) : Lies (w.setCell ⟨b, j, none⟩ u) Q v n k l' g cap b c := by
  obtain ⟨hst, hg⟩ := h.own.stored j u
  have ho : (w.setCell ⟨b, j, none⟩ u).ownsRow 0 81 5 (.slice (some ⟨b, 0, none⟩) l'.length c) l'.length (flat l') := by rw [hl', hf]; exact hst
  obtain ⟨A3, c3, he, hvs⟩ := own_vs ho rfl
  injection he with he _ _
  subst he
  refine ⟨h.out, h.qg, by simpa [World.setCell] using h.gl, h.qb, by simpa [World.setCell] using h.bl, h.ne, ?_, set_free h.free, fun i => set_free (h.free2 i), ho, hvs⟩
  rw [hl']
  exact set_other h.cell (fun e => h.ne e.symm)
/-- a version is read -/
theorem OQ.read (h : OQ w Q v n C) {m : E2} (h0 : 0 ≤ m.a) (hk : m.a.toNat = k) (hkn : k < n) (hl : C[k]? = some l) (hL : Lies w Q v n k l g cap b c) {j : Nat} {x : Ver} (hj : fndI m.b l 0 = j) (hx : l[j]? = some x) (z : Int) :
    OQ (w.setCell ⟨b, j * 5 + 3, none⟩ (.int .i64 (max x.d z))) Q v n (rdC z C m) := by
  obtain rfl := hL.out
  have hch : chOf C m.a = l := ch_at (by rw [hk]; exact hl)
  have e : rdC z C m = C.set k (l.set j (rdV z x)) := by
    unfold rdC onK
    rw [hk, hch]
    unfold rdL
    rw [hj, Int.toNat_natCast, atJ_at hx]
  rw [e]
  exact OQ.set h hkn hL.cell hl (by simp) (flat_set3 l j x _ hx)
/-- the last version of a chain is superseded -/
theorem OQ.succ (h : OQ w Q v n C) (hkn : k < n) (hl : C[k]? = some l) (hp : 0 < l.length) (hL : Lies w Q v n k l g cap b c) (z : Int) :
    OQ (w.setCell ⟨b, (l.length - 1) * 5 + 4, none⟩ (.int .i64 z)) Q v n (C.set k (atJ (suV z) l (l.length - 1))) := by
  obtain rfl := hL.out
  have hx : l[l.length - 1]? = some l[l.length - 1] := List.getElem?_eq_getElem (by omega)
  rw [atJ_at hx]
  exact OQ.set h hkn hL.cell hl (by simp) (flat_set4 l _ _ _ hx)
/-- a version is appended to a chain of it: what the append hands back, and the store when it is put -/
theorem OQ.app (h : OQ w Q v n C) (hkn : k < n) (hl : C[k]? = some l) (hL : Lies w Q v n k l g cap b c) (hn : l.length + 1 ≤ 2097152) (hQ : ∀ q, w.heap.size ≤ q → Q q) {q : Nat} {m : Ver} (hm : At w q 0 m) (hq : q < w.heap.size) (hqb : q ≠ b) :
    ∃ A' c' w', (Builtin.append_ #[73, 73] 73 #[.slice (some ⟨b, 0, none⟩) l.length c, .slice (some ⟨q, 0, none⟩) 1 1]).run Tryz.prog w = .ok (.slice A' (l.length + 1) c') w' ∧
      w'.cell? ⟨g, k, none⟩ = some (.slice (some ⟨b, 0, none⟩) l.length c) ∧ w'.frozen? ⟨g, k, none⟩ = false ∧ w.grownBy w' (some b) ∧
      OQ (w'.setCell ⟨g, k, none⟩ (.slice A' (l.length + 1) c')) Q v n (C.set k (l ++ [m])) := by
  obtain rfl := hL.out
  obtain ⟨v', w', hr, ho, hg, hw⟩ := run_append_v w hL.own (c := 1) (one_vs hm) hn
  obtain ⟨A', c', rfl, _⟩ := own_vs ho (by simp)
  have hrow : (Value.slice (some ⟨b, 0, none⟩) l.length c).ownBlock = some b := rfl
  rw [hrow] at hg
  have hgb := hg.block g hL.gl (fun e => hL.ne (by injection e))
  refine ⟨A', c', w', hr, (World.cell?_of_block hgb).trans hL.cell, (World.frozen?_of_block hgb).trans hL.free, hg, ?_⟩
  · refine OQ.put h hkn hL.cell hg (.inr hrow.symm) (by rw [List.length_append]; exact ho) fun q' hq' => ?_
    rcases hw q' hq' with e | e
    · exact .inl e
    · exact .inr ⟨e, hQ _ e⟩
theorem wr_set {C : List (List Ver)} {m : E2} {k : Nat} {l : List Ver} {i z h : Int} (hk : m.a.toNat = k) (hl : C[k]? = some l) : (C.set k (atJ (suV h) l (l.length - 1))).set k (atJ (suV h) l (l.length - 1) ++ [nwV i z m]) = wrC i z h C m := by
  have hch : chOf C m.a = l := ch_at (by rw [hk]; exact hl)
  unfold wrC onK wrL
  rw [hk, hch, List.set_set]
end
end Go.Proofs.YthbbpfgjbidbhaaGreatDoor.oc
/- The model's l4Copy: a store of the call's own that reads as the same list of lists. -/
namespace Go.Proofs.YthbbpfgjbidbhaaGreatDoor.ls
open Go.ChangeShapes Go.WideShapes Go.ChangeAt Go.RowKit
open Go.Proofs.YthbbpfgjbidbhaaGreatDoor.sl Go.Proofs.YthbbpfgjbidbhaaGreatDoor.st Go.Proofs.YthbbpfgjbidbhaaGreatDoor.flat Go.Proofs.YthbbpfgjbidbhaaGreatDoor.os Go.Proofs.YthbbpfgjbidbhaaGreatDoor.oq Go.Proofs.YthbbpfgjbidbhaaGreatDoor.av Go.Proofs.YthbbpfgjbidbhaaGreatDoor.cs
open Go.Proofs.YthbbpfgjbidbhaaGreatDoor.el2 (new1)
open Go.Proofs.YthbbpfgjbidbhaaGreatDoor.vers (new3)
open Go.Proofs.YthbbpfgjbidbhaaGreatDoor.bx (own_more)
set_option linter.unusedVariables false
set_option linter.unusedSimpArgs false
set_option linter.constructorNameAsVariable false
theorem cell_one (w : World) (v : Value) (t : TypeId) : ∀ (j : Nat) (u : Value), [v][j]? = some u → (w.alloc (.cells #[v] t)).cell? ((⟨w.heap.size, 0, none⟩ : Addr).add j) = some u := by
  intro j u hu
  match j, hu with
  | 0, hu =>
    injection hu with hu
    subst hu
    rw [add_off]
    exact one_cell w v t
theorem one_slice (A : Option Addr) (n c : Nat) : ∀ u ∈ [Value.slice A n c], u.oneCell' = true := by
  intro u hu
  simp only [List.mem_singleton] at hu
  subst hu
  rfl
set_option maxRecDepth 100000 in
set_option maxHeartbeats 3200000 in
theorem spec_copys {w : World} {B N cN : Nat} {D : Option Addr} {C : List (List Ver)} (hN : N ≤ 2097152) (hC : ∀ l ∈ C, l.length ≤ 2097152) (h3 : Rs w B D N C) (hB : B ≤ w.heap.size) :
    Calls Tryz.prog 21 #[.agg #[.slice D N cN]] w (CopS N C w) := by
  have H3 := Lib.hid h3
  have hCN := h3.1
  have HC := Lib.hid hC
  obtain ⟨i0, hi, hz0, hz1, hz2⟩ := info_parts info_row
  have HI := Lib.hid hi
  have HZ0 := Lib.hid hz0
  have HZ1 := Lib.hid hz1
  have HZ2 := Lib.hid hz2
  clear h3 hC hi hz0 hz1 hz2
  go_enter Tryz.func21, Tryz.ntmps21
  go_wp2_with fail
  have z0 := up (.cells #[.slice none 0 0] 33) (up (.cells #[.slice none 0 0] 33) (one_cell w (.slice D N cN) 33) (by simp)) (by simp; omega)
  have z1 := up (.cells #[.slice none 0 0] 33) (one_cell (w.alloc (.cells #[.slice D N cN] 33)) (.slice none 0 0) 33) (by simp)
  have z2 := one_cell ((w.alloc (.cells #[.slice D N cN] 33)).alloc (.cells #[.slice none 0 0] 33)) (.slice none 0 0) 33
  have f1 := free_up (.cells #[.slice none 0 0] 33) (one_free (w.alloc (.cells #[.slice D N cN] 33)) (.slice none 0 0) 33) (by simp)
  have f2 := one_free ((w.alloc (.cells #[.slice D N cN] 33)).alloc (.cells #[.slice none 0 0] 33)) (.slice none 0 0) 33
  have hb0 := new3 w (.cells #[.slice D N cN] 33) (.cells #[.slice none 0 0] 33) (.cells #[.slice none 0 0] 33)
  have hs0 : (((w.alloc (.cells #[.slice D N cN] 33)).alloc (.cells #[.slice none 0 0] 33)).alloc (.cells #[.slice none 0 0] 33)).heap.size = w.heap.size + 3 := by simp
  simp only [World.size_alloc] at z1 z2 f1 f2
  generalize ((w.alloc _).alloc _).alloc _ = w0 at z0 z1 z2 f1 f2 hb0 hs0 ⊢
  have B0 := Lib.hid hb0
  clear hb0
  go_loopw [4] (fun i wr => ∃ (k : Nat) (v : Value), k ≤ N ∧ i = .int .i64 k ∧ OS wr (w.heap.size + 3) v k (C.take k) ∧ wr.cell? ⟨w.heap.size, 0, none⟩ = some (.slice D N cN) ∧ wr.cell? ⟨w.heap.size + 1, 0, none⟩ = some (.slice none 0 0) ∧ wr.cell? ⟨w.heap.size + 1 + 1, 0, none⟩ = some v ∧ wr.frozen? ⟨w.heap.size + 1, 0, none⟩ = false ∧ wr.frozen? ⟨w.heap.size + 1 + 1, 0, none⟩ = false ∧ Below w.heap.size w wr ∧ w.heap.size + 3 ≤ wr.heap.size) (fun i _ => N - (intOf i).toNat)
  case atStart => exact ⟨0, _, by omega, rfl, OS.nil_ _ _, z0, z1, z2, f1, f2, B0.out, by omega⟩
  case round =>
    obtain ⟨k, v, hk, rfl, ho, c0, c1, c2, fz1, fz2, hb, hsz⟩ := hrel
    have O := Lib.hid ho
    have HB := Lib.hid hb
    clear z0 z1 z2 f1 f2 ho hb
    by_cases hlt : k < N
    · have t : decide ((k : Int) < (N : Int)) = true := decide_eq_true (by omega)
      obtain ⟨b2, o2, l, A', n', c', rfl, hb2, hl, d0, hn', hv⟩ := (H3.out.below (below_le HB.out hB)).at_ hlt
      have HL := Lib.hid hl
      have HV := Lib.hid hv
      have hl2 : n' ≤ 2097152 := by have := HC.out l (List.mem_of_getElem? hl); rw [hv.1] at this; exact this
      obtain ⟨vals, ho1, ho2, ho3, ho4⟩ := O.out
      have OW := Lib.hid ho1
      have OR := Lib.hid (And.intro ho2 (And.intro ho3 ho4))
      have C0 := Lib.hid c0
      have C1 := Lib.hid c1
      have F1 := Lib.hid fz1
      have hmax : k + 1 ≤ maxLen := by unfold maxLen; omega
      have hbyt : (k + 1) * 24 ≤ 140737488355328 := by omega
      have hq : B ≤ wr.drew.heap.size := by have := HB.out.size; simp only [World.size_drew]; omega
      clear hl hv ho1 ho2 ho3 ho4 c1 fz1
      go_wp2_with fail
      go_region_law (first | (go_simp; go_at_call 47; refine (spec_copyv hl2 (show Vs wr.drew B A' n' l from HV.out) hq).mono ?_; rintro e W1 ⟨A9, c9, rfl, hr9, hb9⟩; have hb8 : Below wr.heap.size wr W1 := (Below.refl wr.heap.size wr).drew.trans hb9; have e2 := (hb8.cell (p := ⟨w.heap.size + 1 + 1, 0, none⟩) (by simp; omega)).trans c2; have g2 := (hb8.frozen (p := ⟨w.heap.size + 1 + 1, 0, none⟩) (by simp; omega)).trans fz2; have hs1 := hb8.size; have hown3 := OW.out.kept (row := none) (w' := W1) ⟨hb8.os, hb8.tape, hb8.output, hb8.size, fun k hk _ => hb8.block k hk⟩ (by cases v.ownBlock <;> simp); have hlt1 : w.heap.size + 1 + 1 < W1.heap.size := (by omega); have hne1 : some (w.heap.size + 1 + 1) ≠ v.ownBlock := (fun e => by have := (hown3.lt _ e.symm).1; omega)) | (refine step_append_lies _ (by rfl) _ _ _ (by rfl) (w.heap.size + 3) 73 i0 (.slice none 0 0) 1 24 Tryz.underlying31 HI.out HZ0.out HZ1.out HZ2.out rfl (by decide) _ k _ (by rfl) (hown3.alloc _) ⟨W1.heap.size, 0, none⟩ 1 1 [.slice A9 n' c9] (by rfl) (by rfl) (cell_one _ _ _) (one_slice _ _ _) (by decide) hmax hbyt (by simp; omega) (W1.heap.size + 1) (by simp) ?_; intro gg cp w1 hown4 hgrow hat hlt4; have d2 := hgrow.cell (up (.cells #[.slice A9 n' c9] 73) e2 hlt1) hne1; have k2 := (hgrow.frozen_far ⟨w.heap.size + 1 + 1, 0, none⟩ (by simp; omega) hne1).trans (free_up (.cells #[.slice A9 n' c9] 73) g2 hlt1)))
      all_goals
        have hne0 : some w.heap.size ≠ v.ownBlock := fun e => by have := (hown3.lt _ e.symm).1; omega
        have hne2 : some (w.heap.size + 1) ≠ v.ownBlock := fun e => by have := (hown3.lt _ e.symm).1; omega
        have d0' := hgrow.cell (up (.cells #[.slice A9 n' c9] 73) ((hb8.cell (p := ⟨w.heap.size, 0, none⟩) (by simp; omega)).trans C0.out) (by simp; omega)) hne0
        have d1 := hgrow.cell (up (.cells #[.slice A9 n' c9] 73) ((hb8.cell (p := ⟨w.heap.size + 1, 0, none⟩) (by simp; omega)).trans C1.out) (by simp; omega)) hne2
        have k1 := (hgrow.frozen_far ⟨w.heap.size + 1, 0, none⟩ (by simp; omega) hne2).trans (free_up (.cells #[.slice A9 n' c9] 73) ((hb8.frozen (p := ⟨w.heap.size + 1, 0, none⟩) (by simp; omega)).trans F1.out) (by simp; omega))
        have hbA : Below wr.heap.size wr (W1.alloc (.cells #[.slice A9 n' c9] 73)) := hb8.trans ((new1 W1 _).mono hs1)
        have hos := os_push OW.out OR.out.1 OR.out.2.1 OR.out.2.2 hbA (show w.heap.size + 3 ≤ wr.heap.size by omega) (by rw [HV.out.1]; exact own_more (own_keep hr9 (new1 W1 _)) (by simp)) hown4 hgrow
        have htk : C.take k ++ [l] = C.take (k + 1) := by rw [List.take_add_one, HL.out]; rfl
        rw [htk] at hos
        have hlt9 : wr.heap.size ≤ w1.heap.size := Nat.le_trans hbA.size hgrow.size
        have hos9 := hos.grown (row := some (w.heap.size + 1 + 1)) (w' := w1.setCell ⟨w.heap.size + 1 + 1, 0, none⟩ (.slice (some ⟨gg, 0, none⟩) (k + 1) cp)) (grown_set _ _ _) (fun q hq => by injection hq with hq; omega)
        have hb9' : Below w.heap.size w w1 := (HB.out.trans (hbA.mono HB.out.size)).grown hgrow (by have := HB.out.size; have := hbA.size; omega) (fun q hq => by have := (hown3.lt q hq).1; omega)
        have P9 := Lib.hid hos9
        have B9 := Lib.hid (hb9'.setCell (p := ⟨w.heap.size + 1 + 1, 0, none⟩) (show w.heap.size ≤ w.heap.size + 1 + 1 by omega) (.slice (some ⟨gg, 0, none⟩) (k + 1) cp))
        have D0 := Lib.hid (set_other (a := ⟨w.heap.size + 1 + 1, 0, none⟩) (v := .slice (some ⟨gg, 0, none⟩) (k + 1) cp) d0' (show w.heap.size + 1 + 1 ≠ w.heap.size by omega))
        have D1 := Lib.hid (set_other (a := ⟨w.heap.size + 1 + 1, 0, none⟩) (v := .slice (some ⟨gg, 0, none⟩) (k + 1) cp) d1 (show w.heap.size + 1 + 1 ≠ w.heap.size + 1 by omega))
        have D2 := Lib.hid (set_same (v := .slice (some ⟨gg, 0, none⟩) (k + 1) cp) d2)
        have E1 := Lib.hid (set_free (a := ⟨w.heap.size + 1 + 1, 0, none⟩) (v := .slice (some ⟨gg, 0, none⟩) (k + 1) cp) k1)
        have E2 := Lib.hid (set_free (a := ⟨w.heap.size + 1 + 1, 0, none⟩) (v := .slice (some ⟨gg, 0, none⟩) (k + 1) cp) k2)
        have S9 : w.heap.size + 3 ≤ (w1.setCell ⟨w.heap.size + 1 + 1, 0, none⟩ (.slice (some ⟨gg, 0, none⟩) (k + 1) cp)).heap.size := by simp [World.setCell]; omega
        clear hos hos9 hb9' hbA hown3 hown4 hgrow hat hr9 hb9 hb8 d0' d1 k1 e2 g2 c0 c2 fz2
        go_wp2_with fail
        go_roundw
        case rel => exact ⟨k + 1, _, by omega, by go_num, P9.out, D0.out, D1.out, D2.out, E1.out, E2.out, B9.out, S9⟩
        case measure => simp [intOf]; omega
    · have t : decide ((k : Int) < (N : Int)) = false := decide_eq_false (by omega)
      obtain rfl : N = k := by omega
      obtain ⟨A9, c9, rfl⟩ : ∃ A9 c9, v = .slice A9 N c9 := by
        obtain ⟨vals, h1, _⟩ := O.out
        rcases h1.2 with ⟨rfl, rfl⟩ | ⟨g, cap, cur, rfl, _⟩
        · exact ⟨none, 0, rfl⟩
        · exact ⟨_, cap, rfl⟩
      go_wp2_with fail
      have hb := HB.out.setCell (p := ⟨w.heap.size + 1, 0, none⟩) (by simp) (.slice A9 N c9)
      have e1 := set_same (v := .slice A9 N c9) c1
      have ho := O.out.grown (row := some (w.heap.size + 1)) (w' := wr.setCell ⟨w.heap.size + 1, 0, none⟩ (.slice A9 N c9)) (grown_set _ _ _) (fun q hq => by injection hq with hq; omega)
      generalize wr.setCell _ _ = Wf at hb e1 ho ⊢
      refine bodyPost_ret (v := .agg #[.slice A9 N c9]) (by simp [results, Tryz.results21, go_sem, e1]) rfl ⟨_, _, rfl, ?_, hb⟩
      rw [List.take_of_length_le (by omega)] at ho
      exact ho.more (by omega)
end Go.Proofs.YthbbpfgjbidbhaaGreatDoor.ls
/- The program's install: a written version goes into its chain, in a store of one's own. -/
namespace Go.Proofs.YthbbpfgjbidbhaaGreatDoor.ist
open Go.ChangeShapes Go.WideShapes Go.ChangeAt Go.RowKit
open Go.Proofs.YthbbpfgjbidbhaaGreatDoor.sl Go.Proofs.YthbbpfgjbidbhaaGreatDoor.st Go.Proofs.YthbbpfgjbidbhaaGreatDoor.flat Go.Proofs.YthbbpfgjbidbhaaGreatDoor.os Go.Proofs.YthbbpfgjbidbhaaGreatDoor.oq Go.Proofs.YthbbpfgjbidbhaaGreatDoor.av Go.Proofs.YthbbpfgjbidbhaaGreatDoor.oc
open Go.Proofs.YthbbpfgjbidbhaaGreatDoor.el2 (new1 E2)
open Go.Proofs.YthbbpfgjbidbhaaGreatDoor.tx (Hd TB)
open Go.Proofs.YthbbpfgjbidbhaaGreatDoor.vers (new2)
open Go.Proofs.YthbbpfgjbidbhaaGreatDoor.rx (chOf ch_at)
open Go.Proofs.YthbbpfgjbidbhaaGreatDoor.ao (step_append_run)
open Go.Proofs.YthbbpfgjbidbhaaGreatDoor.ct (rdV suV nwV atJ rdL wrL onK rdC wrC atJ_at atJ_len)
set_option linter.unusedVariables false
set_option linter.unusedSimpArgs false
set_option linter.constructorNameAsVariable false
set_option maxRecDepth 100000 in
set_option maxHeartbeats 3200000 in
theorem impl_inst {w : World} {Q : Nat → Prop} {N n1 c1 n2 c2 : Nat} {A1 A2 : Option Addr} {v : Value} {C : List (List Ver)} {l : List Ver} (x : Hd) (m : E2) (sb : Nat) (hs : w.cell? ⟨sb, 0, none⟩ = some v) (hsb : sb < w.heap.size) (hqs : ¬ Q sb) (hQ : ∀ q, w.heap.size ≤ q → Q q) (h : OQ w Q v N C) (h0 : 0 ≤ m.a) (hk : m.a.toNat < N) (hl : C[m.a.toNat]? = some l) (hp : 0 < l.length) (hm : l.length ≤ 2000000) :
    Calls Tryz.prog 63 #[.pointer (some ⟨sb, 0, none⟩), .agg #[.int .i64 x.i, .int .i64 x.s, .int .i64 x.t, .int .i64 x.b, .int .i64 x.l, .int .i64 x.h, .int .i64 x.c, .slice A1 n1 c1, .slice A2 n2 c2], .agg #[.int .i64 m.a, .int .i64 m.b]] w fun e w' =>
      (50 ≤ l.length ∧ e = .returned (.bool false) ∧ Below w.heap.size w w') ∨ (l.length < 50 ∧ e = .returned (.bool true) ∧ OQ w' Q v N (wrC x.i x.c x.h C m) ∧ Agr (fun q => ¬ Q q) w w') := by
  obtain ⟨k, hk2⟩ : ∃ k : Nat, m.a = (k : Int) := ⟨m.a.toNat, by omega⟩
  have hk3 : m.a.toNat = k := by omega
  rw [hk3] at hk hl
  have HQ := Lib.hid hQ
  have HL := Lib.hid hl
  obtain ⟨g, cap, b, c, hL⟩ := OQ.chain h hk hl hp
  obtain rfl := hL.out
  have O := Lib.hid h
  have LI := Lib.hid hL
  clear h hL hl hQ
  have k1 : (k : Int) < (N : Int) := by omega
  have LB := LI.out.bl
  have GL := LI.out.gl
  have O1len := O.out.len
  go_enter Tryz.func63, Tryz.ntmps63
  go_wp2_with fail
  have tb := (TB.new w x A1 n1 c1 A2 n2 c2 37).keep (B := w.heap.size + 1) (by omega) (el2.below_le (new1 (w.alloc (.cells #[.int .i64 x.i, .int .i64 x.s, .int .i64 x.t, .int .i64 x.b, .int .i64 x.l, .int .i64 x.h, .int .i64 x.c, .slice A1 n1 c1, .slice A2 n2 c2] 37)) (.cells #[.int .i64 m.a, .int .i64 m.b] 75)) (by simp))
  have mb := el2.boxed (w.alloc (.cells #[.int .i64 x.i, .int .i64 x.s, .int .i64 x.t, .int .i64 x.b, .int .i64 x.l, .int .i64 x.h, .int .i64 x.c, .slice A1 n1 c1, .slice A2 n2 c2] 37)) m 75
  have hb := new2 w (.cells #[.int .i64 x.i, .int .i64 x.s, .int .i64 x.t, .int .i64 x.b, .int .i64 x.l, .int .i64 x.h, .int .i64 x.c, .slice A1 n1 c1, .slice A2 n2 c2] 37) (.cells #[.int .i64 m.a, .int .i64 m.b] 75)
  have hsz : ((w.alloc (.cells #[.int .i64 x.i, .int .i64 x.s, .int .i64 x.t, .int .i64 x.b, .int .i64 x.l, .int .i64 x.h, .int .i64 x.c, .slice A1 n1 c1, .slice A2 n2 c2] 37)).alloc (.cells #[.int .i64 m.a, .int .i64 m.b] 75)).heap.size = w.heap.size + 2 := by simp
  rw [show (w.alloc (.cells #[.int .i64 x.i, .int .i64 x.s, .int .i64 x.t, .int .i64 x.b, .int .i64 x.l, .int .i64 x.h, .int .i64 x.c, .slice A1 n1 c1, .slice A2 n2 c2] 37)).heap.size = w.heap.size + 1 by simp] at mb
  rw [hk2] at mb tb hb hsz ⊢
  generalize (w.alloc _).alloc _ = W0 at tb mb hb hsz ⊢
  have c0 := (hb.cell (p := ⟨sb, 0, none⟩) hsb).trans hs
  have L0 := LI.out
  have gl := L0.gl
  have bl := L0.bl
  have c1' := (hb.cell (p := ⟨g, k, none⟩) gl).trans L0.cell
  have TBx := Lib.hid tb
  have MB := Lib.hid mb
  have HB := Lib.hid hb
  obtain ⟨m0, m1⟩ := el2.atFlat mb
  rw [hk2] at m0
  clear tb mb hb L0
  go_quiet (fail)
  generalize hW1 : W0.drewN _ = W1
  have B1 : Hid (Below w.heap.size w W1) := Lib.hid (by rw [← hW1]; exact ⟨HB.out.os, HB.out.tape, HB.out.output, HB.out.size, HB.out.block⟩)
  have T1 : Hid (TB W1 w.heap.size x (.slice A1 n1 c1) (.slice A2 n2 c2)) := Lib.hid (by rw [← hW1]; exact TBx.out)
  have M1 : Hid (el2.At W1 (w.heap.size + 1) 0 m) := Lib.hid (by rw [← hW1]; exact MB.out)
  have hsz1 : W1.heap.size = w.heap.size + 2 := by rw [← hW1]; exact hsz
  have L1 := Lib.hid (LI.out.keep B1.out)
  have O1 := Lib.hid (O.out.below B1.out)
  have S1 := Lib.hid ((B1.out.cell (p := ⟨sb, 0, none⟩) hsb).trans hs)
  clear hW1 m0 m1 c0 c1' TBx MB HB hsz LI O hs
  have s5 := L1.out.free2 ((l.length - 1) * 5 + 4)
  obtain ⟨e0, e1, e2, e3, e4⟩ := Lies.at_ L1.out (j := l.length - 1) (x := l[l.length - 1]) (List.getElem?_eq_getElem (by omega))
  obtain ⟨t0, t1, t2, t3, t4, t5, t6, t7, t8⟩ := T1.out
  have s1 : IntKind.i64.wrap ((l.length : Int) - 1) = (l.length : Int) - 1 := IntWalk.i64_in _ (by omega)
  have s2 : (0 : Int) ≤ (l.length : Int) - 1 := by omega
  have s3 : ((l.length : Int) - 1).toNat = l.length - 1 := by omega
  by_cases h50 : 50 ≤ l.length
  · have t : decide ((50 : Int) ≤ (l.length : Int)) = true := decide_eq_true (by omega)
    go_wp2_with fail
    go_ret
    exact .inl ⟨h50, rfl, B1.out⟩
  · have t : decide ((50 : Int) ≤ (l.length : Int)) = false := decide_eq_false (by omega)
    go_wp2_with fail
    have hlen1 : (atJ (suV x.h) l (l.length - 1)).length = l.length := atJ_len _ _ _
    have hfl : flat (atJ (suV x.h) l (l.length - 1)) = (flat l).set ((l.length - 1) * 5 + 4) (.int .i64 x.h) := by
      have hx : l[l.length - 1]? = some l[l.length - 1] := List.getElem?_eq_getElem (by omega)
      rw [atJ_at hx]
      exact flat_set4 l _ _ _ hx
    have hbs : b < w.heap.size := LB
    have O2 := Lib.hid (OQ.succ O1.out hk HL.out hp L1.out x.h)
    have L2 := Lib.hid (Lies.set L1.out hlen1 hfl)
    have T2 := Lib.hid (T1.out.of_block (w' := W1.setCell ⟨b, (l.length - 1) * 5 + 4, none⟩ (.int .i64 x.h)) (Below.heap_setCell W1 _ _ _ (show w.heap.size ≠ b by omega)))
    have M2 := Lib.hid (M1.out.of_block (w' := W1.setCell ⟨b, (l.length - 1) * 5 + 4, none⟩ (.int .i64 x.h)) (Below.heap_setCell W1 _ _ _ (show w.heap.size + 1 ≠ b by omega)))
    have hne : b ≠ sb := fun e => hqs (e ▸ L1.out.qb)
    have S2 := Lib.hid (set_other (a := ⟨b, (l.length - 1) * 5 + 4, none⟩) (v := .int .i64 x.h) S1.out hne)
    have A2' := Lib.hid (Agr.set ((Agr.of_below B1.out (fun q => ¬ Q q))) (p := ⟨b, (l.length - 1) * 5 + 4, none⟩) (.int .i64 x.h) (fun e => e L1.out.qb))
    have hsz2 : (W1.setCell ⟨b, (l.length - 1) * 5 + 4, none⟩ (.int .i64 x.h)).heap.size = w.heap.size + 2 := by simp [World.setCell]; omega
    generalize W1.setCell _ _ = W2 at O2 L2 T2 M2 S2 A2' hsz2 ⊢
    clear t0 t1 t2 t3 t4 t5 t6 t7 t8 e0 e1 e2 e3 e4 s5 O1 L1 T1 M1 S1 B1 hsz1
    have hd : Below W2.heap.size W2 ((W2.alloc (.cells #[.int .i64 x.i, .int .i64 m.b, .int .i64 x.c, .int .i64 x.c, .int .i64 1000] 81)).drew) := (new1 W2 _).drew
    have hmA : At ((W2.alloc (.cells #[.int .i64 x.i, .int .i64 m.b, .int .i64 x.c, .int .i64 x.c, .int .i64 1000] 81)).drew) W2.heap.size 0 (nwV x.i x.c m) := ch.boxed W2 (nwV x.i x.c m) 81
    have hsA : ((W2.alloc (.cells #[.int .i64 x.i, .int .i64 m.b, .int .i64 x.c, .int .i64 x.c, .int .i64 1000] 81)).drew).heap.size = W2.heap.size + 1 := by simp
    have hbW := L2.out.bl
    obtain ⟨A', c', w', hr, hc9, hf9, hg9, hoq⟩ := OQ.app (O2.out.below hd) hk (by rw [List.getElem?_set_self (by rw [O1len]; exact hk)]) (L2.out.keep hd) (by rw [hlen1]; omega) (fun q hq => HQ.out q (by omega)) (q := W2.heap.size) hmA (by omega) (by omega)
    rw [hlen1] at hr hc9 hoq
    rw [wr_set hk3 HL.out] at hoq
    have OF := Lib.hid hoq
    have GF := Lib.hid hg9
    clear hoq
    obtain ⟨t0, t1, t2, t3, t4, t5, t6, t7, t8⟩ := T2.out
    obtain ⟨m0, m1⟩ := el2.atFlat M2.out
    rw [hk2] at m0
    have c0 := S2.out
    have gA : ∀ {p : Addr} {u : Value}, W2.cell? p = some u → p.block < W2.heap.size → ((W2.alloc (.cells #[.int .i64 x.i, .int .i64 m.b, .int .i64 x.c, .int .i64 x.c, .int .i64 1000] 81)).drew).cell? p = some u := fun {p u} hp hl => (hd.cell (p := p) hl).trans hp
    have gD : ∀ {p : Addr} {u : Value}, W2.cell? p = some u → p.block < W2.heap.size → p.block ≠ b → w'.cell? p = some u := fun {p u} hp hl hn => GF.out.cell (gA hp hl) (fun e => hn (by injection e))
    have lsb : sb < W2.heap.size := by omega
    have lw0 : w.heap.size < W2.heap.size := by omega
    have lw1 : w.heap.size + 1 < W2.heap.size := by omega
    have nsb : sb ≠ b := fun e => hne e.symm
    have nw0 : w.heap.size ≠ b := by omega
    have nw1 : w.heap.size + 1 ≠ b := by omega
    have hgs : g ≠ sb := fun e => hqs (e ▸ L2.out.qg)
    have hgw : g < w.heap.size := GL
    have hS0 : W2.drew.cell? ⟨sb, 0, none⟩ = some (.slice (some ⟨g, 0, none⟩) N cap) ∧ W2.drew.cell? ⟨w.heap.size + 1, 0, none⟩ = some (.int .i64 (k : Int)) ∧ W2.drew.cell? ⟨w.heap.size + 1, 1, none⟩ = some (.int .i64 m.b) ∧ W2.drew.cell? ⟨w.heap.size, 0, none⟩ = some (.int .i64 x.i) ∧ W2.drew.cell? ⟨w.heap.size, 6, none⟩ = some (.int .i64 x.c) := ⟨c0, m0, m1, t0, t6⟩
    have hS1 : ((W2.alloc (.cells #[.int .i64 x.i, .int .i64 m.b, .int .i64 x.c, .int .i64 x.c, .int .i64 1000] 81)).drew).cell? ⟨sb, 0, none⟩ = some (.slice (some ⟨g, 0, none⟩) N cap) ∧ ((W2.alloc (.cells #[.int .i64 x.i, .int .i64 m.b, .int .i64 x.c, .int .i64 x.c, .int .i64 1000] 81)).drew).cell? ⟨w.heap.size + 1, 0, none⟩ = some (.int .i64 (k : Int)) ∧ ((W2.alloc (.cells #[.int .i64 x.i, .int .i64 m.b, .int .i64 x.c, .int .i64 x.c, .int .i64 1000] 81)).drew).cell? ⟨w.heap.size + 1, 1, none⟩ = some (.int .i64 m.b) ∧ ((W2.alloc (.cells #[.int .i64 x.i, .int .i64 m.b, .int .i64 x.c, .int .i64 x.c, .int .i64 1000] 81)).drew).cell? ⟨w.heap.size, 0, none⟩ = some (.int .i64 x.i) ∧ ((W2.alloc (.cells #[.int .i64 x.i, .int .i64 m.b, .int .i64 x.c, .int .i64 x.c, .int .i64 1000] 81)).drew).cell? ⟨w.heap.size, 6, none⟩ = some (.int .i64 x.c) := ⟨gA c0 lsb, gA m0 lw1, gA m1 lw1, gA t0 lw0, gA t6 lw0⟩
    have hS2 : w'.cell? ⟨sb, 0, none⟩ = some (.slice (some ⟨g, 0, none⟩) N cap) ∧ w'.cell? ⟨w.heap.size + 1, 0, none⟩ = some (.int .i64 (k : Int)) ∧ w'.cell? ⟨w.heap.size + 1, 1, none⟩ = some (.int .i64 m.b) ∧ w'.cell? ⟨w.heap.size, 0, none⟩ = some (.int .i64 x.i) ∧ w'.cell? ⟨w.heap.size, 6, none⟩ = some (.int .i64 x.c) := ⟨gD c0 lsb nsb, gD m0 lw1 nw1, gD m1 lw1 nw1, gD t0 lw0 nw0, gD t6 lw0 nw0⟩
    have hS3 : (w'.setCell ⟨g, k, none⟩ (.slice A' (l.length + 1) c')).cell? ⟨sb, 0, none⟩ = some (.slice (some ⟨g, 0, none⟩) N cap) ∧ (w'.setCell ⟨g, k, none⟩ (.slice A' (l.length + 1) c')).cell? ⟨w.heap.size + 1, 0, none⟩ = some (.int .i64 (k : Int)) ∧ (w'.setCell ⟨g, k, none⟩ (.slice A' (l.length + 1) c')).cell? ⟨w.heap.size + 1, 1, none⟩ = some (.int .i64 m.b) ∧ (w'.setCell ⟨g, k, none⟩ (.slice A' (l.length + 1) c')).cell? ⟨w.heap.size, 0, none⟩ = some (.int .i64 x.i) ∧ (w'.setCell ⟨g, k, none⟩ (.slice A' (l.length + 1) c')).cell? ⟨w.heap.size, 6, none⟩ = some (.int .i64 x.c) := ⟨set_other hS2.1 hgs, set_other hS2.2.1 (show g ≠ w.heap.size + 1 by omega), set_other hS2.2.2.1 (show g ≠ w.heap.size + 1 by omega), set_other hS2.2.2.2.1 (show g ≠ w.heap.size by omega), set_other hS2.2.2.2.2 (show g ≠ w.heap.size by omega)⟩
    have AF := Lib.hid ((A2'.out.trans ((Agr.of_below hd _).trans (Agr.of_grown GF.out (fun q hq e => hq (by injection e with e; rw [e]; exact L2.out.qb))))).set (p := ⟨g, k, none⟩) (.slice A' (l.length + 1) c') (fun e => e L2.out.qg))
    clear gA gD hd GF
    go_region_held3 (fun w' => w'.cell? ⟨sb, 0, none⟩ = some (.slice (some ⟨g, 0, none⟩) N cap) ∧ w'.cell? ⟨w.heap.size + 1, 0, none⟩ = some (.int .i64 (k : Int)) ∧ w'.cell? ⟨w.heap.size + 1, 1, none⟩ = some (.int .i64 m.b) ∧ w'.cell? ⟨w.heap.size, 0, none⟩ = some (.int .i64 x.i) ∧ w'.cell? ⟨w.heap.size, 6, none⟩ = some (.int .i64 x.c)) (first | with_reducible exact hS0 | with_reducible exact hS1 | with_reducible exact hS2 | with_reducible exact hS3) (refine step_append_run rfl (.tmp 33) (.tmp 43) 73 73 rfl _ _ (by simp [Act.eval, Act.put]) (by simp [Act.eval, Act.put]) hr ?_)
    all_goals
      clear hS0 hS1 hS2 hS3 c0 t0 t1 t2 t3 t4 t5 t6 t7 t8 m0 m1
      go_wp2_with fail
      go_ret
      exact .inr ⟨by omega, rfl, OF.out, AF.out⟩
end Go.Proofs.YthbbpfgjbidbhaaGreatDoor.ist
/- The program's and the model's ReadLatest and ReadAt: what each answers; nothing that was there is written. -/
namespace Go.Proofs.YthbbpfgjbidbhaaGreatDoor.rd
open Go.ChangeShapes Go.WideShapes Go.ChangeAt Go.RowKit
open Go.Proofs.YthbbpfgjbidbhaaGreatDoor.vers Go.Proofs.YthbbpfgjbidbhaaGreatDoor.sl Go.Proofs.YthbbpfgjbidbhaaGreatDoor.ch Go.Proofs.YthbbpfgjbidbhaaGreatDoor.st Go.Proofs.YthbbpfgjbidbhaaGreatDoor.val
open Go.Proofs.YthbbpfgjbidbhaaGreatDoor.find (lastV vAt atI vAt_yes store5 below5 latest_spec latest_impl)
set_option linter.unusedVariables false
set_option linter.unusedSimpArgs false
/-- a box of the call's own and a zero version behind it, in a world that holds what was there -/
structure Loc (w : World) (v : Value) (W : World) : Prop where
  bel : Below w.heap.size w W
  size : w.heap.size + 2 ≤ W.heap.size
  box : W.cell? ⟨w.heap.size, 0, none⟩ = some v
  zer : At W (w.heap.size + 1) 0 ⟨0, 0, 0, 0, 0⟩
  free : ∀ i, W.frozen? ⟨w.heap.size + 1, i, none⟩ = false
theorem Loc.mk2 (w : World) (v : Value) (s t : TypeId) : Loc w v ((w.alloc (.cells #[v] s)).alloc (.cells #[.int .i64 0, .int .i64 0, .int .i64 0, .int .i64 0, .int .i64 0] t)) where
  bel := new2 _ _ _
  size := by simp
  box := up _ (one_cell w v s) (by simp)
  zer := by have := boxed (w.alloc (.cells #[v] s)) ⟨0, 0, 0, 0, 0⟩ t; simpa using this
  free := fun i => by simp
theorem Loc.call {w W W' : World} {v : Value} (h : Loc w v W) (hb : Below W.heap.size W W') : Loc w v W' where
  bel := h.bel.trans (hb.mono h.bel.size)
  size := Nat.le_trans h.size hb.size
  box := (hb.cell (p := ⟨w.heap.size, 0, none⟩) (by have := h.size; simp; omega)).trans h.box
  zer := At.keep h.zer (B := W.heap.size) (by have := h.size; omega) hb
  free := fun i => (hb.frozen (p := ⟨w.heap.size + 1, i, none⟩) (by have := h.size; simp; omega)).trans (h.free i)
noncomputable def rlB (ll : List (List Ver)) (k : Int) : Bool := stB ll && In 0 5 k
noncomputable def rlV (ll : List (List Ver)) (k : Int) : Ver := if rlB ll k = true then lastV (ll.getD k.toNat []) else ⟨0, 0, 0, 0, 0⟩
noncomputable def raB (ll : List (List Ver)) (k s : Int) : Bool := rlB ll k && decide (0 ≤ vAt (ll.getD k.toNat []) s)
noncomputable def raV (ll : List (List Ver)) (k s : Int) : Ver := if raB ll k s = true then (ll.getD k.toNat []).getD (vAt (ll.getD k.toNat []) s).toNat default else ⟨0, 0, 0, 0, 0⟩
theorem rl_st {ll : List (List Ver)} {k : Int} (h : stB ll = false) : rlB ll k = false := by simp [rlB, h]
theorem rl_in {ll : List (List Ver)} {k : Int} (h : In 0 5 k = false) : rlB ll k = false := by simp [rlB, h]
theorem rl_yes {ll : List (List Ver)} {k : Int} (h : stB ll = true) (h2 : In 0 5 k = true) : rlB ll k = true := by simp [rlB, h, h2]
theorem rlV_no {ll : List (List Ver)} {k : Int} (h : rlB ll k = false) : rlV ll k = ⟨0, 0, 0, 0, 0⟩ := by simp [rlV, h]
theorem rlV_yes {ll : List (List Ver)} {k : Int} {l : List Ver} (h : rlB ll k = true) (hl : ll[k.toNat]? = some l) : rlV ll k = lastV l := by simp [rlV, h, List.getD, hl]
theorem ra_rl {ll : List (List Ver)} {k s : Int} (h : rlB ll k = false) : raB ll k s = false := by simp [raB, h]
theorem ra_at {ll : List (List Ver)} {k s : Int} {l : List Ver} (hl : ll[k.toNat]? = some l) (h : vAt l s < 0) : raB ll k s = false := by
  have : ll.getD k.toNat [] = l := by simp [List.getD, hl]
  unfold raB
  rw [this, decide_eq_false (by omega), Bool.and_false]
theorem ra_yes {ll : List (List Ver)} {k s : Int} {l : List Ver} (h : rlB ll k = true) (hl : ll[k.toNat]? = some l) (h2 : 0 ≤ vAt l s) : raB ll k s = true := by
  have : ll.getD k.toNat [] = l := by simp [List.getD, hl]
  unfold raB
  rw [this, h, decide_eq_true h2]
  rfl
theorem raV_no {ll : List (List Ver)} {k s : Int} (h : raB ll k s = false) : raV ll k s = ⟨0, 0, 0, 0, 0⟩ := by simp [raV, h]
theorem raV_yes {ll : List (List Ver)} {k s : Int} {l : List Ver} {x : Ver} {j : Nat} (h : raB ll k s = true) (hl : ll[k.toNat]? = some l) (hj : vAt l s = j) (hx : l[j]? = some x) : raV ll k s = x := by
  have : ll.getD k.toNat [] = l := by simp [List.getD, hl]
  unfold raV
  rw [if_pos h, this, hj]
  simp [List.getD, hx]
theorem atI_range (s : Int) (l : List Ver) (k : Nat) : -1 ≤ atI s l k ∧ atI s l k < (k : Int) := by
  induction k with
  | zero => exact ⟨by simp [atI], by simp [atI]⟩
  | succ k ih =>
    unfold atI
    split
    · exact ⟨by omega, by omega⟩
    · exact ⟨ih.1, by omega⟩
theorem vAt_range {l : List Ver} (s : Int) (h : chB l = true) : -1 ≤ vAt l s ∧ vAt l s < (l.length : Int) := by
  rw [← vAt_yes rfl h]
  exact atI_range s l _
end Go.Proofs.YthbbpfgjbidbhaaGreatDoor.rd
/- A slice of integers read as a list; the law's comparison and marks of such slices; what may change: blocks of a given set. -/
namespace Go.Proofs.YthbbpfgjbidbhaaGreatDoor.ints
open Go.ChangeShapes Go.WideShapes Go.ChangeAt Go.RowKit
open Go.Proofs.YthbbpfgjbidbhaaGreatDoor.vers Go.Proofs.YthbbpfgjbidbhaaGreatDoor.sl Go.Proofs.YthbbpfgjbidbhaaGreatDoor.ch Go.Proofs.YthbbpfgjbidbhaaGreatDoor.st
set_option linter.unusedVariables false
set_option linter.unusedSimpArgs false
/-- the slice value '.slice A n c' reads as the list of integers xs, in memory below B -/
def Is (w : World) (B : Nat) (A : Option Addr) (n : Nat) (xs : List Int) : Prop :=
  xs.length = n ∧ (0 < n → ∃ b o, A = some ⟨b, o, none⟩ ∧ b < B ∧ ∀ k x, xs[k]? = some x → w.cell? ⟨b, o + k, none⟩ = some (.int .i64 x))
section
variable {w w' : World} {B B' n : Nat} {A : Option Addr} {xs : List Int}
theorem Is.nil_ (w : World) (B : Nat) (A : Option Addr) : Is w B A 0 [] := ⟨rfl, fun h => absurd h (by omega)⟩
theorem Is.below (h : Is w B A n xs) (hk : Below B w w') : Is w' B A n xs := ⟨h.1, fun hn => by
  obtain ⟨b, o, e, hb, hc⟩ := h.2 hn
  exact ⟨b, o, e, hb, fun k x hx => (hk.cell hb).trans (hc k x hx)⟩⟩
theorem Is.more (h : Is w B A n xs) (hB : B ≤ B') : Is w B' A n xs := ⟨h.1, fun hn => by
  obtain ⟨b, o, e, hb, hc⟩ := h.2 hn
  exact ⟨b, o, e, by omega, hc⟩⟩
theorem Is.at_ (h : Is w B A n xs) {k : Nat} (hk : k < n) : ∃ b o x, A = some ⟨b, o, none⟩ ∧ b < B ∧ xs[k]? = some x ∧ w.cell? ⟨b, o + k, none⟩ = some (.int .i64 x) := by
  obtain ⟨b, o, e, hb, hc⟩ := h.2 (by omega)
  have hl : k < xs.length := by have := h.1; omega
  exact ⟨b, o, xs[k], e, hb, List.getElem?_eq_getElem hl, hc k _ (List.getElem?_eq_getElem hl)⟩
end
/-! what may change -/
/-- the blocks outside S are as they were -/
structure Off (S : Nat → Prop) (w w' : World) : Prop where
  os : w'.os = w.os
  tape : w'.tape = w.tape
  output : w'.output = w.output
  size : w'.heap.size = w.heap.size
  block : ∀ k, ¬ S k → w'.heap[k]? = w.heap[k]?
section
variable {S T : Nat → Prop} {a w w' : World}
theorem Off.refl (S : Nat → Prop) (w : World) : Off S w w := ⟨rfl, rfl, rfl, rfl, fun _ _ => rfl⟩
theorem Off.trans (h : Off S a w) (k : Off S w w') : Off S a w' := ⟨k.os.trans h.os, k.tape.trans h.tape, k.output.trans h.output, k.size.trans h.size, fun i hi => (k.block i hi).trans (h.block i hi)⟩
theorem Off.wide (h : Off S w w') (hs : ∀ k, S k → T k) : Off T w w' := ⟨h.os, h.tape, h.output, h.size, fun i hi => h.block i fun hs' => hi (hs i hs')⟩
theorem Off.setCell (h : Off S a w) {p : Addr} (hp : S p.block) (u : Value) : Off S a (w.setCell p u) :=
  ⟨h.os, h.tape, h.output, by simpa [World.setCell] using h.size, fun k hk => (Below.heap_setCell w p u k (fun e => hk (by rw [e]; exact hp))).trans (h.block k hk)⟩
theorem Off.below {B : Nat} (h : Off S w w') (hB : ∀ k, S k → B ≤ k) : Below B w w' := ⟨h.os, h.tape, h.output, by rw [h.size]; exact Nat.le_refl _, fun k hk => h.block k fun hs => by have := hB k hs; omega⟩
theorem Off.cell (h : Off S w w') {p : Addr} (hp : ¬ S p.block) : w'.cell? p = w.cell? p := World.cell?_of_block (w := w) (h.block p.block hp)
theorem Off.frozen (h : Off S w w') {p : Addr} (hp : ¬ S p.block) : w'.frozen? p = w.frozen? p := World.frozen?_of_block (w := w) (h.block p.block hp)
end
/-! marks -/
theorem ival {a b : Int} (h : a = b) : Value.int .i64 a = .int .i64 b := by rw [h]
/-- block g, a row of M integers of the call's own, bears the marks k0, k0 + 1, .. in its first j cells -/
def IR (w : World) (g M : Nat) (k0 : Int) (j : Nat) : Prop := ∃ f, w.rowIs g 3 M f ∧ ∀ i, i < j → f i = .int .i64 (k0 + i)
section
variable {w w' : World} {g M j : Nat} {k0 : Int}
theorem IR.lt (h : IR w g M k0 j) : g < w.heap.size := by obtain ⟨f, hf, _⟩ := h; exact hf.lt
theorem IR.zero (h : IR w g M k0 j) (k1 : Int) : IR w g M k1 0 := by obtain ⟨f, hf, _⟩ := h; exact ⟨f, hf, fun i hi => absurd hi (by omega)⟩
theorem IR.of_block (h : IR w g M k0 j) (hb : w'.heap[g]? = w.heap[g]?) : IR w' g M k0 j := by
  obtain ⟨f, hf, hm⟩ := h
  exact ⟨f, hf.of_block hb, hm⟩
theorem IR.below {B : Nat} (h : IR w g M k0 j) (hb : Below B w w') (hg : g < B) : IR w' g M k0 j := h.of_block (hb.block g hg)
theorem IR.cell (h : IR w g M k0 j) {i : Nat} (hi : i < j) (hM : j ≤ M) : w.cell? ⟨g, i, none⟩ = some (.int .i64 (k0 + i)) := by
  obtain ⟨f, hf, hm⟩ := h
  rw [hf.cell (by omega), hm i hi]
theorem IR.any (h : IR w g M k0 j) {i : Nat} (hi : i < M) : ∃ u, w.cell? ⟨g, i, none⟩ = some u := by
  obtain ⟨f, hf, hm⟩ := h
  exact ⟨_, hf.cell hi⟩
theorem IR.frozen (h : IR w g M k0 j) (i : Nat) : w.frozen? ⟨g, i, none⟩ = false := by
  obtain ⟨f, hf, hm⟩ := h
  exact hf.frozen i
theorem IR.step (h : IR w g M k0 j) {x : Int} (hx : x = k0 + j) : IR (w.setCell ⟨g, j, none⟩ (.int .i64 x)) g M k0 (j + 1) := by
  obtain ⟨f, hf, hm⟩ := h
  refine ⟨_, hf.set j _, fun i hi => ?_⟩
  by_cases e : i = j
  · rw [if_pos e]; exact ival (by omega)
  · rw [if_neg e]; exact hm i (by omega)
end
end Go.Proofs.YthbbpfgjbidbhaaGreatDoor.ints
/- The program's and the model's StateAt: what each answers; nothing that was there is written. -/
namespace Go.Proofs.YthbbpfgjbidbhaaGreatDoor.sa
open Go.ChangeShapes Go.WideShapes Go.ChangeAt Go.RowKit
open Go.Proofs.YthbbpfgjbidbhaaGreatDoor.vers Go.Proofs.YthbbpfgjbidbhaaGreatDoor.sl Go.Proofs.YthbbpfgjbidbhaaGreatDoor.ch Go.Proofs.YthbbpfgjbidbhaaGreatDoor.st Go.Proofs.YthbbpfgjbidbhaaGreatDoor.val Go.Proofs.YthbbpfgjbidbhaaGreatDoor.rd Go.Proofs.YthbbpfgjbidbhaaGreatDoor.ints
set_option linter.unusedVariables false
set_option linter.unusedSimpArgs false
/-- the first k keys can be read at s -/
def RdOk (ll : List (List Ver)) (s : Int) (k : Nat) : Prop := ∀ i : Nat, i < k → raB ll i s = true
noncomputable def saV (ll : List (List Ver)) (s : Int) (k : Nat) : List Int := (List.range k).map fun i => (raV ll (i : Nat) s).b
noncomputable def saL (ll : List (List Ver)) (s : Int) : List Int := @ite _ (RdOk ll s 6) (Classical.propDecidable _) (saV ll s 6) []
theorem saL_yes {ll : List (List Ver)} {s : Int} (h : RdOk ll s 6) : saL ll s = saV ll s 6 := by unfold saL; exact if_pos h
theorem saL_no {ll : List (List Ver)} {s : Int} {k : Nat} (hk : k < 6) (h : raB ll (k : Nat) s = false) : saL ll s = [] := by
  unfold saL
  refine if_neg fun hh => ?_
  have := hh k hk
  rw [h] at this
  cases this
theorem rdok_zero (ll : List (List Ver)) (s : Int) : RdOk ll s 0 := fun i h => absurd h (by omega)
theorem rdok_step {ll : List (List Ver)} {s : Int} {k : Nat} (h : RdOk ll s k) (h2 : raB ll (k : Nat) s = true) : RdOk ll s (k + 1) := fun i hi => by
  by_cases e : i = k
  · subst e; exact h2
  · exact h i (by omega)
theorem saV_step (ll : List (List Ver)) (s : Int) (k : Nat) : saV ll s (k + 1) = saV ll s k ++ [(raV ll (k : Nat) s).b] := by
  unfold saV
  rw [List.range_succ, List.map_append]
  rfl
theorem saV_len (ll : List (List Ver)) (s : Int) (k : Nat) : (saV ll s k).length = k := by simp [saV]
theorem saV_get {ll : List (List Ver)} {s : Int} {k i : Nat} (h : i < k) : (saV ll s k)[i]? = some (raV ll (i : Nat) s).b := by simp [saV, h]
/-- an own row of integers reads as a list -/
theorem own_is {w : World} {B m : Nat} {v : Value} {xs : List Int} (ho : w.ownsRow B 3 1 v m (xs.map (Value.int .i64))) (hl : xs.length = m) : ∃ A c, v = .slice A m c ∧ Is w w.heap.size A m xs := by
  rcases Nat.eq_zero_or_pos m with h0 | h0
  · subst h0
    rcases ho.2 with ⟨rfl, _⟩ | ⟨g, cap, cur, rfl, _⟩
    · exact ⟨none, 0, rfl, hl, fun h => absurd h (by omega)⟩
    · exact ⟨_, cap, rfl, hl, fun h => absurd h (by omega)⟩
  · obtain ⟨g, cap, rfl, _, hlt⟩ := ho.form h0
    refine ⟨_, cap, rfl, hl, fun _ => ⟨g, 0, rfl, hlt, fun k x hx => ?_⟩⟩
    have := ho.cells (g := g) rfl k (.int .i64 x) (by rw [List.getElem?_map, hx]; rfl)
    rw [← this]
    congr 1
    unfold Addr.add
    split <;> simp_all
theorem own_keep {w w' : World} {B m : Nat} {v : Value} {xs : List Value} (h : w.ownsRow B 3 1 v m xs) (hb : Below w.heap.size w w') : w'.ownsRow B 3 1 v m xs := by
  rcases h.2 with ⟨h0, h1⟩ | ⟨g, cap, cur, hv, hbg, hgg, hnc, hcm, hsz, htk⟩
  · exact ⟨h.1, .inl ⟨h0, h1⟩⟩
  · refine ⟨h.1, .inr ⟨g, cap, cur, hv, hbg, ?_, hnc, hcm, hsz, htk⟩⟩
    have hlt : g < w.heap.size := by
      rcases Nat.lt_or_ge g w.heap.size with h' | h'
      · exact h'
      · rw [Array.getElem?_eq_none h'] at hgg; cases hgg
    rw [hb.block g hlt]; exact hgg
theorem cell_one (w : World) (v : Value) (t : TypeId) : ∀ (j : Nat) (u : Value), [v][j]? = some u → (w.alloc (.cells #[v] t)).cell? ((⟨w.heap.size, 0, none⟩ : Addr).add j) = some u := by
  intro j u hu
  match j, hu with
  | 0, hu =>
    simp only [List.getElem?_cons_zero, Option.some.injEq] at hu
    rw [← hu]
    exact World.cell?_alloc_mark w _ t _ 0
  | j + 1, hu => simp at hu
theorem cell_one2 (w : World) (o : Obj) (v : Value) (t : TypeId) : ∀ (j : Nat) (u : Value), [v][j]? = some u → ((w.alloc o).alloc (.cells #[v] t)).cell? ((⟨w.heap.size + 1, 0, none⟩ : Addr).add j) = some u := by
  have h := cell_one (w.alloc o) v t
  rw [World.size_alloc] at h
  exact h
theorem one_int (x : Int) : ∀ u ∈ [Value.int .i64 x], u.oneCell' = true := by
  intro u hu
  simp only [List.mem_singleton] at hu
  rw [hu]; rfl
theorem info_int : (Tryz.prog.info? 3).map (fun i => (i.zero, i.size, i.bytes)) = some (some (.int .i64 0), 1, 8) := by kernel_rfl
/-- an answer that reads as xs, in memory of the call's own or none -/
def Ans (xs : List Int) (w : World) (e : Ending) (w' : World) : Prop := ∃ A m c, e = .returned (.slice A m c) ∧ Is w' w'.heap.size A m xs ∧ Below w.heap.size w w'
/-! the program's: two arrays, then one copy -/
theorem info_bool : (Tryz.prog.info? 4).map (fun i => (i.zero, i.size, i.bytes)) = some (some (.bool false), 1, 1) := by kernel_rfl
theorem six_made (w : World) (v : Value) (t : TypeId) : (w.alloc (.cells #[v, v, v, v, v, v] t)).rowIs w.heap.size t 6 (fun _ => v) :=
  World.rowIs_alloc w #[v, v, v, v, v, v] t (fun _ => v) (fun i hi => by
    have : i = 0 ∨ i = 1 ∨ i = 2 ∨ i = 3 ∨ i = 4 ∨ i = 5 := by simp at hi; omega
    rcases this with rfl | rfl | rfl | rfl | rfl | rfl <;> rfl)
theorem saL_not {ll : List (List Ver)} {s : Int} (h : ¬ RdOk ll s 6) : saL ll s = [] := by unfold saL; exact if_neg h
/-- what the two arrays hold when the first k keys are read -/
noncomputable def fV (ll : List (List Ver)) (s : Int) (k i : Nat) : Value := if i < k then .int .i64 (raV ll (i : Nat) s).b else .int .i64 0
noncomputable def fU (ll : List (List Ver)) (s : Int) (k i : Nat) : Value := if i < k then .bool (!raB ll (i : Nat) s) else .bool false
theorem fV_step (ll : List (List Ver)) (s : Int) (k : Nat) {x : Int} (hx : (raV ll (k : Nat) s).b = x) : (fun j => if j = k then Value.int .i64 x else fV ll s k j) = fV ll s (k + 1) := by
  funext j
  unfold fV
  by_cases e : j = k
  · subst e; rw [if_pos rfl, if_pos (by omega), hx]
  · rw [if_neg e]
    by_cases h : j < k
    · rw [if_pos h, if_pos (by omega)]
    · rw [if_neg h, if_neg (by omega)]
theorem fU_step (ll : List (List Ver)) (s : Int) (k : Nat) {x : Bool} (hx : raB ll (k : Nat) s = x) : (fun j => if j = k then Value.bool (!x) else fU ll s k j) = fU ll s (k + 1) := by
  funext j
  unfold fU
  by_cases e : j = k
  · subst e; rw [if_pos rfl, if_pos (by omega), hx]
  · rw [if_neg e]
    by_cases h : j < k
    · rw [if_pos h, if_pos (by omega)]
    · rw [if_neg h, if_neg (by omega)]
theorem make6 (w : World) : (Instr.makeSlice 127 (.int .i64 6) (.int .i64 6)).run Tryz.prog w = .ok (.slice (some ⟨w.heap.size, 0, none⟩) 6 6) (w.alloc (.cells #[.int .i64 0, .int .i64 0, .int .i64 0, .int .i64 0, .int .i64 0, .int .i64 0] 3)) := by
  obtain ⟨i0, hi, hz0, hz1, hz2⟩ := info_parts info_int
  have hr := run_make (P := Tryz.prog) w 127 3 i0 _ Tryz.underlying127 hi hz0 .i64 .i64 (6 : Nat) (6 : Nat) (by omega) (by omega) (by rw [hz2]; omega) (by omega)
  simp only [Int.toNat_natCast, hz1, Value.cells, Nat.mul_one] at hr
  have e : madeCells #[Value.int .i64 0] 6 = #[.int .i64 0, .int .i64 0, .int .i64 0, .int .i64 0, .int .i64 0, .int .i64 0] := by kernel_rfl
  rw [e] at hr
  exact hr
theorem below_cells {B b : Nat} (hb : B ≤ b) : ∀ (vs : List Value) (o : Nat) {a w : World}, Below B a w → Below B a (w.setCells b o vs)
  | [], _, _, _, h => h
  | v :: r, o, a, w, h => below_cells hb r (o + 1) (h.setCell (p := ⟨b, o, none⟩) hb v)
theorem size_cells (b : Nat) : ∀ (vs : List Value) (o : Nat) (w : World), (w.setCells b o vs).heap.size = w.heap.size
  | [], _, _ => rfl
  | v :: r, o, w => (size_cells b r (o + 1) (w.setCell ⟨b, o, none⟩ v)).trans (by simp [World.setCell])
theorem row_cells {b n : Nat} {t : TypeId} : ∀ (vs : List Value) (o : Nat) (w : World) (f : Nat → Value), w.rowIs b t n f → ∃ f', (w.setCells b o vs).rowIs b t n f'
  | [], _, _, f, h => ⟨f, h⟩
  | v :: r, o, w, f, h => row_cells r (o + 1) (w.setCell ⟨b, o, none⟩ v) _ (h.set o v)
/-- an answer in a new row of the call's own, or nil -/
def AnsR (xs : List Int) (w : World) (e : Ending) (w' : World) : Prop :=
  (e = .returned (.slice none 0 0) ∧ xs = [] ∧ Below w.heap.size w w') ∨ ∃ g, e = .returned (.slice (some ⟨g, 0, none⟩) 6 6) ∧ w.heap.size ≤ g ∧ IR w' g 6 0 0 ∧ Is w' w'.heap.size (some ⟨g, 0, none⟩) 6 xs ∧ Below w.heap.size w w'
/-- a row, its cells known, over a call -/
theorem row_below {w w' : World} {b n B : Nat} {t : TypeId} {f : Nat → Value} (h : w.rowIs b t n f) (hb : Below B w w') (hl : b < B) : w'.rowIs b t n f := h.of_block (hb.block b hl)
end Go.Proofs.YthbbpfgjbidbhaaGreatDoor.sa
namespace Go.Proofs.YthbbpfgjbidbhaaGreatDoor.cq
open Go.Proofs.YthbbpfgjbidbhaaGreatDoor.el2 Go.Proofs.YthbbpfgjbidbhaaGreatDoor.tx Go.Proofs.YthbbpfgjbidbhaaGreatDoor.seq Go.Proofs.YthbbpfgjbidbhaaGreatDoor.tv Go.Proofs.YthbbpfgjbidbhaaGreatDoor.tf Go.Proofs.YthbbpfgjbidbhaaGreatDoor.rx Go.Proofs.YthbbpfgjbidbhaaGreatDoor.rl Go.Proofs.YthbbpfgjbidbhaaGreatDoor.rh Go.Proofs.YthbbpfgjbidbhaaGreatDoor.last Go.Proofs.YthbbpfgjbidbhaaGreatDoor.em Go.Proofs.YthbbpfgjbidbhaaGreatDoor.ct
open Go.Proofs.YthbbpfgjbidbhaaGreatDoor.sl (Ver)
open Go.Proofs.YthbbpfgjbidbhaaGreatDoor.st (cnt)
open Go.Proofs.YthbbpfgjbidbhaaGreatDoor.val (stB okL okL_ch_of okL_len okL_yes st_ok st_six)
open Go.Proofs.YthbbpfgjbidbhaaGreatDoor.find (fndI lastV atI vAt fnd_hit fnd_none)
open Go.Proofs.YthbbpfgjbidbhaaGreatDoor.ch (chB ch_of ch_yes ChP okV fol)
open Go.Proofs.YthbbpfgjbidbhaaGreatDoor.rd (raB raV rlB)
open Go.Proofs.YthbbpfgjbidbhaaGreatDoor.sa (saL saV RdOk saL_yes saL_not)
set_option linter.unusedVariables false
set_option linter.unusedSimpArgs false
/-- what a commit that happens rests on -/
structure Ok9 (C : List (List Ver)) (R S : List E2) (i z h : Int) : Prop where
  st : stB C = true
  rk : ∀ m ∈ R, 0 ≤ m.a ∧ m.a ≤ 5
  asc : wrB S = true
  idr : 1 ≤ i ∧ i ≤ 9
  zr : lstS C < z ∧ z ≤ 999
  hr : 1 ≤ h ∧ h ≤ z
  fit : fitB C S = true
theorem cm_ok {C : List (List Ver)} {x : Hd} {R S : List E2} {z : Int} (h : Go.Proofs.YthbbpfgjbidbhaaGreatDoor.ct.cmB C x R S z = true) : Ok9 C R S x.i z (fwH C x R S z) ∧ fwB C x R S z = true ∧ txB x R S = true ∧ x.t = 1 ∧ fwL C x R S z < fwH C x R S z := by
  simp only [Go.Proofs.YthbbpfgjbidbhaaGreatDoor.ct.cmB, mayB, Bool.and_eq_true, decide_eq_true_eq] at h
  obtain ⟨⟨hf, hl⟩, hfit⟩ := h
  obtain ⟨hr, ht, hu⟩ := fw_parts hf
  obtain ⟨hs, htx, _⟩ := rex_parts hr
  have hu2 := hu
  simp only [unB, Bool.and_eq_true, decide_eq_true_eq] at hu2
  have hl0 : 0 ≤ fwL C x R S z := by
    rw [fwL_yes hf]
    have := hdB_range htx
    have := rl_range C x R S
    omega
  have hh : fwH C x R S z ≤ z := by rw [fwH_yes hf]; omega
  have hi : 1 ≤ x.i ∧ x.i ≤ 9 := by
    have h2 := htx
    simp only [txB, hdB, Go.Proofs.YthbbpfgjbidbhaaGreatDoor.vers.In, Bool.and_eq_true, decide_eq_true_eq] at h2
    omega
  refine ⟨⟨hs, fun m hm => ?_, tx_wr htx, hi, hu2, ⟨by omega, hh⟩, hfit⟩, hf, htx, ht, hl⟩
  obtain ⟨j, hj, rfl⟩ := List.getElem_of_mem hm
  exact key_of htx (List.getElem?_eq_getElem hj)
/-- the transaction behind the commit is valid -/
theorem cm_tx {C : List (List Ver)} {x : Hd} {R S : List E2} {z : Int} (h : Go.Proofs.YthbbpfgjbidbhaaGreatDoor.ct.cmB C x R S z = true) : txB (cmX C x R S z) R S = true ∧ (cmX C x R S z).t = 2 ∧ (cmX C x R S z).i = x.i ∧ (cmX C x R S z).c = z ∧ 1 ≤ z := by
  obtain ⟨ok, hf, htx, ht, hl⟩ := cm_ok h
  have h0 := lst_range C
  have hz := ok.zr
  have hh := ok.hr
  have hl2 : 0 ≤ fwL C x R S z ∧ fwL C x R S z ≤ 999 := by
    rw [fwL_yes hf]
    have := hdB_range htx
    have := rl_range C x R S
    omega
  have e : cmX C x R S z = ⟨x.i, x.s, 2, x.b, fwL C x R S z, fwH C x R S z, z⟩ := if_pos h
  rw [e]
  refine ⟨?_, rfl, rfl, rfl, by omega⟩
  simp only [txB, hdB, Go.Proofs.YthbbpfgjbidbhaaGreatDoor.vers.In, Bool.and_eq_true, decide_eq_true_eq] at htx ⊢
  obtain ⟨⟨⟨⟨⟨⟨a1, a2⟩, a3⟩, _⟩, _⟩, a5⟩, a6⟩ := htx
  refine ⟨⟨⟨⟨⟨⟨a1, a2⟩, a3⟩, ⟨by omega, by omega⟩⟩, cm_yes (.inl ⟨rfl, by omega, by omega⟩)⟩, a5⟩, a6⟩
/-! the last stamp -/
theorem mxL_le : ∀ (l : List Ver) (m : Int), m ≤ mxL m l ∧ ∀ v ∈ l, v.c ≤ mxL m l ∧ v.d ≤ mxL m l
  | [], m => ⟨Int.le_refl _, fun v h => by cases h⟩
  | u :: r, m => by
    obtain ⟨h1, h2⟩ := mxL_le r (mxV m u)
    have e : mxL m (u :: r) = mxL (mxV m u) r := rfl
    rw [e]
    have hu : m ≤ mxV m u ∧ u.c ≤ mxV m u ∧ u.d ≤ mxV m u := by unfold mxV; omega
    refine ⟨by omega, fun v hv => ?_⟩
    rcases List.mem_cons.1 hv with rfl | hv
    · omega
    · exact h2 v hv
theorem mxS_le : ∀ (C : List (List Ver)) (m : Int), m ≤ C.foldl mxL m ∧ ∀ l ∈ C, ∀ v ∈ l, v.c ≤ C.foldl mxL m ∧ v.d ≤ C.foldl mxL m
  | [], m => ⟨Int.le_refl _, fun l h => by cases h⟩
  | u :: r, m => by
    obtain ⟨h1, h2⟩ := mxS_le r (mxL m u)
    obtain ⟨h3, h4⟩ := mxL_le u m
    have e : (u :: r).foldl mxL m = r.foldl mxL (mxL m u) := rfl
    rw [e]
    refine ⟨by omega, fun l hl v hv => ?_⟩
    rcases List.mem_cons.1 hl with rfl | hl
    · have := h4 v hv
      omega
    · exact h2 l hl v hv
theorem lst_le {C : List (List Ver)} (hs : stB C = true) : ∀ l ∈ C, ∀ v ∈ l, v.c ≤ lstS C ∧ v.d ≤ lstS C := by
  rw [lst_yes hs]
  exact (mxS_le C 0).2
section
variable {C : List (List Ver)} {R S : List E2} {i z h : Int}
theorem chOf_mem (hs : stB C = true) {k : Int} (h0 : 0 ≤ k) (h5 : k ≤ 5) : chOf C k ∈ C := by
  obtain ⟨l, hl, _, e⟩ := chain_key hs h0 h5
  rw [e]
  exact List.mem_of_getElem? hl
/-- behind the reads -/
theorem rd_all (hs : stB C = true) (hz : lstS C < z) (hR : ∀ m ∈ R, 0 ≤ m.a ∧ m.a ≤ 5) : ∀ n, n ≤ R.length → (rdK z C R n).length = C.length ∧ ∀ k : Int, 0 ≤ k → k ≤ 5 → Like z (chOf C k) (chOf (rdK z C R n) k)
  | 0, _ => ⟨rfl, fun k _ _ => Like.refl z _⟩
  | n + 1, hn => by
    obtain ⟨h1, h2⟩ := rd_all hs hz hR n (by omega)
    have hx : R[n]? = some R[n] := List.getElem?_eq_getElem (by omega)
    obtain ⟨m0, m5⟩ := hR _ (List.getElem_mem (show n < R.length by omega))
    rw [rdK_step hx]
    unfold rdC
    refine ⟨by rw [onK_len]; exact h1, fun k k0 k5 => ?_⟩
    rw [chOf_onK m0 k0 (by rw [h1, st_six hs]; omega)]
    have hk := h2 k k0 k5
    split
    · rename_i e
      subst e
      refine hk.trans (like_rd z _ (like_le hk fun v hv => ?_))
      have := (lst_le hs _ (chOf_mem hs k0 k5) v hv).2
      omega
    · exact hk
theorem wr_asc (h : wrB S = true) : ∀ (d i : Nat) (x y : E2), S[i]? = some x → S[i + d + 1]? = some y → x.a < y.a
  | 0, i, x, y, hx, hy => by
    have := (sq_of h).2 i x y hx hy
    simpa [folW] using this
  | d + 1, i, x, y, hx, hy => by
    have hl := lt_get hy
    have hz : S[i + 1]? = some (S[i + 1]'(by omega)) := List.getElem?_eq_getElem _
    have h1 := wr_asc h 0 i x _ hx hz
    have h2 := wr_asc h d (i + 1) _ y hz (by rw [show i + 1 + d + 1 = i + (d + 1) + 1 by omega]; exact hy)
    omega
theorem wr_ne (h : wrB S = true) {i j : Nat} {x y : E2} (hx : S[i]? = some x) (hy : S[j]? = some y) (hij : i < j) : x.a < y.a := wr_asc h (j - i - 1) i x y hx (by rw [show i + (j - i - 1) + 1 = j by omega]; exact hy)
theorem wr_key (h : wrB S = true) {j : Nat} {m : E2} (hm : S[j]? = some m) : 0 ≤ m.a ∧ m.a ≤ 5 ∧ -1 ≤ m.b ∧ m.b ≤ 99 := by
  have := (sq_of h).1 j m hm
  simp only [okW, Go.Proofs.YthbbpfgjbidbhaaGreatDoor.vers.In, Bool.and_eq_true, decide_eq_true_eq] at this
  omega
/-- behind the writes -/
theorem wr_all {C1 : List (List Ver)} (h6 : C1.length = 6) (hS : wrB S = true) : ∀ n, n ≤ S.length → (wrK i z h C1 S n).length = 6 ∧ (∀ j m, j < n → S[j]? = some m → chOf (wrK i z h C1 S n) m.a = wrL h (nwV i z m) (chOf C1 m.a)) ∧ ∀ k : Int, 0 ≤ k → (∀ j m, j < n → S[j]? = some m → m.a ≠ k) → chOf (wrK i z h C1 S n) k = chOf C1 k
  | 0, _ => ⟨h6, fun j m hj => absurd hj (by omega), fun k _ _ => rfl⟩
  | n + 1, hn => by
    obtain ⟨h1, h2, h3⟩ := wr_all h6 hS n (by omega)
    have hx : S[n]? = some S[n] := List.getElem?_eq_getElem (by omega)
    obtain ⟨m0, m5, _⟩ := wr_key hS hx
    rw [wrK_step hx]
    unfold wrC
    refine ⟨by rw [onK_len]; exact h1, fun j m hj hm => ?_, fun k k0 hk => ?_⟩
    · obtain ⟨q0, q5, _⟩ := wr_key hS hm
      rw [chOf_onK m0 q0 (by rw [h1]; omega)]
      by_cases e : j = n
      · subst e
        rw [hx] at hm
        injection hm with hm
        subst hm
        rw [if_pos rfl, h3 _ m0 fun j' m' hj' hm' e => ?_]
        have := wr_ne hS hm' hx hj'
        omega
      · have := wr_ne hS hm hx (by omega)
        rw [if_neg (by omega)]
        exact h2 j m (by omega) hm
    · rw [chOf_onK m0 k0 (by rw [h1]; omega), if_neg fun e => hk n _ (by omega) hx e.symm]
      exact h3 k k0 fun j m hj hm => hk j m (by omega) hm
/-- the chain of a key behind the commit -/
theorem ins_key (o : Ok9 C R S i z h) {k : Int} (k0 : 0 ≤ k) (k5 : k ≤ 5) : ∃ l1, Like z (chOf C k) l1 ∧ ((∃ m ∈ S, m.a = k ∧ chOf (insC C i z h R S) k = wrL h (nwV i z m) l1) ∨ ((∀ m ∈ S, m.a ≠ k) ∧ chOf (insC C i z h R S) k = l1)) := by
  obtain ⟨r1, r2⟩ := rd_all o.st o.zr.1 o.rk R.length (Nat.le_refl _)
  obtain ⟨w1, w2, w3⟩ := wr_all (i := i) (z := z) (h := h) (by rw [r1]; exact st_six o.st) o.asc S.length (Nat.le_refl _)
  refine ⟨_, r2 k k0 k5, ?_⟩
  by_cases e : ∃ m ∈ S, m.a = k
  · obtain ⟨m, hm, hk⟩ := e
    refine .inl ⟨m, hm, hk, ?_⟩
    obtain ⟨j, hj, rfl⟩ := List.getElem_of_mem hm
    subst hk
    exact w2 j _ hj (List.getElem?_eq_getElem hj)
  · have e2 : ∀ m ∈ S, m.a ≠ k := fun m hm hk => e ⟨m, hm, hk⟩
    exact .inr ⟨e2, w3 k k0 fun j m _ hm => e2 m (List.mem_of_getElem? hm)⟩
theorem ins_len (o : Ok9 C R S i z h) : (insC C i z h R S).length = 6 := by
  obtain ⟨r1, _⟩ := rd_all o.st o.zr.1 o.rk R.length (Nat.le_refl _)
  exact (wr_all (i := i) (z := z) (h := h) (by rw [r1]; exact st_six o.st) o.asc S.length (Nat.le_refl _)).1
/-- every creation that was there is before the stamp -/
theorem old_lt (o : Ok9 C R S i z h) {k : Int} (k0 : 0 ≤ k) (k5 : k ≤ 5) {l1 : List Ver} (hL : Like z (chOf C k) l1) : ∀ v ∈ l1, v.c < z := by
  intro v hv
  obtain ⟨j, hj, rfl⟩ := List.getElem_of_mem hv
  have hj2 : j < (chOf C k).length := by rw [← hL.1]; exact hj
  obtain ⟨_, _, e, _⟩ := hL.2 j _ _ (List.getElem?_eq_getElem hj2) (List.getElem?_eq_getElem hj)
  have := (lst_le o.st _ (chOf_mem o.st k0 k5) _ (List.getElem_mem hj2)).1
  have := o.zr.1
  omega
theorem nw_ok (o : Ok9 C R S i z h) {m : E2} (hm : m ∈ S) : okV (nwV i z m) = true := by
  obtain ⟨j, hj, rfl⟩ := List.getElem_of_mem hm
  obtain ⟨_, _, b1, b2⟩ := wr_key o.asc (List.getElem?_eq_getElem hj)
  obtain ⟨i1, i2⟩ := o.idr
  obtain ⟨z1, z2⟩ := o.zr
  have := lst_range C
  refine decide_eq_true (show Go.Proofs.YthbbpfgjbidbhaaGreatDoor.vers.vP i S[j].b z z 1000 from ?_)
  exact ⟨b1, b2, by omega, z2, Int.le_refl _, z2, by omega, by omega, fun e => by omega, fun _ => ⟨i1, i2⟩⟩
/-- the store behind the commit is valid -/
theorem ins_st (o : Ok9 C R S i z h) : stB (insC C i z h R S) = true := by
  have h6 := ins_len o
  simp only [stB, Bool.and_eq_true, decide_eq_true_eq, List.all_eq_true]
  refine ⟨h6, fun l hl => ?_⟩
  obtain ⟨j, hj, rfl⟩ := List.getElem_of_mem hl
  have k0 : (0 : Int) ≤ (j : Int) := by omega
  have k5 : (j : Int) ≤ 5 := by omega
  have hg := List.getElem?_eq_getElem hj
  have hc : chOf (insC C i z h R S) (j : Int) = (insC C i z h R S)[j] := ch_at hg
  obtain ⟨l0, hl0, hch0, e0⟩ := chain_key o.st k0 k5
  have hlen0 : l0.length ≤ 50 := okL_len (st_ok o.st hl0)
  obtain ⟨l1, hL, hw⟩ := ins_key o k0 k5
  rw [e0] at hL
  have hc1 := like_ch hL o.zr.2 hch0
  rcases hw with ⟨m, hm, hk, e⟩ | ⟨_, e⟩
  · rw [hc] at e
    rw [e]
    refine okL_yes (wr_ch hc1 (nw_ok o hm) rfl o.hr.1 o.hr.2 ?_) ?_
    · obtain ⟨y, hy, hly, _⟩ := last_at hc1
      rw [hly]
      exact old_lt o k0 k5 (by rw [e0]; exact hL) y (List.mem_of_getElem? hy)
    · have hf := o.fit
      simp only [fitB, List.all_eq_true, decide_eq_true_eq] at hf
      have := hf m hm
      rw [hk, e0] at this
      have := hL.1
      simp only [wrL, List.length_append, atJ_len, List.length_cons, List.length_nil]
      omega
  · rw [hc] at e
    rw [e]
    exact okL_yes hc1 (by rw [hL.1]; exact hlen0)
/-! what was installed -/
/-- the version of the key k that the transaction i installed at z -/
noncomputable def instV (C : List (List Ver)) (i z : Int) (k : Nat) : Option Ver := if hasV C ⟨k, z⟩ = true ∧ (verOf C ⟨k, z⟩).a = i then some (verOf C ⟨k, z⟩) else none
noncomputable def instK (C : List (List Ver)) (i z : Int) (n : Nat) : List Ver := (List.range n).filterMap (instV C i z)
/-- the commit stamp of a transaction, 0 without one -/
noncomputable def cstI (x : Hd) (R S : List E2) : Int := if txB x R S = true ∧ x.t = 2 then x.c else 0
noncomputable def instB (C : List (List Ver)) (x : Hd) (R S : List E2) : Bool := decide (cstI x R S ≠ 0) && stB C
noncomputable def instL (C : List (List Ver)) (x : Hd) (R S : List E2) : List Ver := if instB C x R S = true then instK C x.i (cstI x R S) 6 else []
theorem cst_yes {x : Hd} {R S : List E2} (h1 : txB x R S = true) (h2 : x.t = 2) : cstI x R S = x.c := if_pos ⟨h1, h2⟩
theorem cst_tx {x : Hd} {R S : List E2} (h1 : txB x R S = false) : cstI x R S = 0 := if_neg (by rw [h1]; simp)
theorem cst_t {x : Hd} {R S : List E2} (h2 : ¬ x.t = 2) : cstI x R S = 0 := if_neg fun h => h2 h.2
theorem cst_range (x : Hd) (R S : List E2) : 0 ≤ cstI x R S ∧ cstI x R S ≤ 999 := by
  unfold cstI
  split
  · rename_i h
    obtain ⟨h1, h2⟩ := h
    simp only [txB, hdB, Bool.and_eq_true] at h1
    have := of_decide_eq_true h1.1.1.2
    unfold cmP at this
    omega
  · omega
theorem instK_step (C : List (List Ver)) (i z : Int) (n : Nat) : instK C i z (n + 1) = instK C i z n ++ (instV C i z n).toList := by
  unfold instK
  rw [List.range_succ, List.filterMap_append]
  cases h : instV C i z n <;> simp [h]
theorem instV_no {C : List (List Ver)} {i z : Int} {k : Nat} (h : hasV C ⟨k, z⟩ = false) : instV C i z k = none := if_neg (by rw [h]; simp)
theorem instV_ne {C : List (List Ver)} {i z : Int} {k : Nat} (h : (verOf C ⟨k, z⟩).a ≠ i) : instV C i z k = none := if_neg fun e => h e.2
theorem instV_yes {C : List (List Ver)} {i z : Int} {k : Nat} {v : Ver} (h : hasV C ⟨k, z⟩ = true) (hv : verOf C ⟨k, z⟩ = v) (ha : v.a = i) : instV C i z k = some v := by
  unfold instV
  rw [hv, if_pos ⟨h, ha⟩]
theorem fnd_last {l : List Ver} {v : Ver} (hl : ∀ u ∈ l, u.c ≠ v.c) : fndI v.c (l ++ [v]) 0 = (l.length : Int) := by
  have hu := fnd_upto (l := l ++ [v]) (c := v.c) l.length (by simp) (fun j x hj hx => by
    rw [List.getElem?_append_left hj] at hx
    exact hl x (List.mem_of_getElem? hx))
  exact (fnd_hit hu (by rw [List.getElem?_append_right (Nat.le_refl _)]; simp) rfl).symm
theorem fnd_non {l : List Ver} {c : Int} (hl : ∀ u ∈ l, u.c ≠ c) : fndI c l 0 = -1 :=
  (fnd_none (fnd_upto l.length (Nat.le_refl _) (fun j x _ hx => hl x (List.mem_of_getElem? hx))) (Nat.le_refl _)).symm
theorem atJ_mem {f : Ver → Ver} {l : List Ver} {j : Nat} {u : Ver} (h : u ∈ atJ f l j) : ∃ v ∈ l, u = v ∨ u = f v := by
  obtain ⟨k, hk, rfl⟩ := List.getElem_of_mem h
  obtain ⟨v, hv, e⟩ := atJ_get (List.getElem?_eq_getElem hk)
  refine ⟨v, List.mem_of_getElem? hv, ?_⟩
  split at e
  · exact .inr e
  · exact .inl e
theorem inst_at (o : Ok9 C R S i z h) (k : Nat) (hk : k < 6) : instV (insC C i z h R S) i z k = ((S.find? fun m => decide (m.a = (k : Int))).map (nwV i z)) := by
  have k0 : (0 : Int) ≤ (k : Int) := by omega
  have k5 : (k : Int) ≤ 5 := by omega
  obtain ⟨l1, hL, hw⟩ := ins_key o k0 k5
  have hold := old_lt o k0 k5 hL
  rcases hw with ⟨m, hm, hmk, e⟩ | ⟨hno, e⟩
  · have hf : S.find? (fun m => decide (m.a = (k : Int))) = some m := by
      rcases hff : S.find? (fun m => decide (m.a = (k : Int))) with _ | m'
      · have := List.find?_eq_none.1 hff m hm
        simp [hmk] at this
      · have hm' := List.mem_of_find?_eq_some hff
        have he := List.find?_some hff
        simp only [decide_eq_true_eq] at he
        obtain ⟨j, hj, rfl⟩ := List.getElem_of_mem hm
        obtain ⟨j', hj', rfl⟩ := List.getElem_of_mem hm'
        rcases Nat.lt_trichotomy j j' with h1 | h1 | h1
        · have := wr_ne o.asc (List.getElem?_eq_getElem hj) (List.getElem?_eq_getElem hj') h1
          omega
        · subst h1; exact hff
        · have := wr_ne o.asc (List.getElem?_eq_getElem hj') (List.getElem?_eq_getElem hj) h1
          omega
    rw [hf]
    have hfn : fndI z (wrL h (nwV i z m) l1) 0 = ((atJ (suV h) l1 (l1.length - 1)).length : Int) := by
      refine fnd_last (v := nwV i z m) fun u hu => ?_
      obtain ⟨v, hv, e2⟩ := atJ_mem hu
      have := hold v hv
      have h3 : u.c = v.c := by rcases e2 with rfl | rfl <;> rfl
      show u.c ≠ z
      omega
    have hh : hasV (insC C i z h R S) ⟨(k : Int), z⟩ = true := by
      unfold hasV
      rw [e, hfn]
      exact decide_eq_true (by omega)
    refine instV_yes hh ?_ rfl
    unfold verOf
    rw [e, hfn]
    unfold wrL
    rw [Int.toNat_natCast]
    unfold List.getD
    rw [List.getElem?_append_right (Nat.le_refl _)]
    simp
  · have hf : S.find? (fun m => decide (m.a = (k : Int))) = none := by
      rw [List.find?_eq_none]
      intro m hm
      simp [hno m hm]
    rw [hf]
    refine instV_no ?_
    unfold hasV
    rw [e, fnd_non fun u hu => by have := hold u hu; show u.c ≠ z; omega]
    rfl
theorem find_split : ∀ {S : List E2} (n : Int), List.Pairwise (fun a b : E2 => a.a < b.a) S → S.filter (fun m => decide (m.a < n + 1)) = S.filter (fun m => decide (m.a < n)) ++ (S.find? fun m => decide (m.a = n)).toList
  | [], n, _ => rfl
  | m :: r, n, hp => by
    rw [List.pairwise_cons] at hp
    have ih := find_split n hp.2
    rcases Int.lt_trichotomy m.a n with h1 | h1 | h1
    · rw [List.filter_cons, if_pos (by simp; omega), List.filter_cons, if_pos (by simp; omega), List.find?_cons_of_neg (by simp; omega), ih]
      rfl
    · have he : ∀ n', n' ≤ m.a + 1 → r.filter (fun m => decide (m.a < n')) = [] := fun n' hn' => by
        rw [List.filter_eq_nil_iff]
        intro q hq
        have := hp.1 q hq
        simp
        omega
      rw [List.filter_cons, if_pos (by simp; omega), List.filter_cons, if_neg (by simp; omega), List.find?_cons_of_pos (by simp; omega), he _ (by omega), he _ (by omega)]
      rfl
    · have he : ∀ n', n' ≤ m.a → r.filter (fun m => decide (m.a < n')) = [] := fun n' hn' => by
        rw [List.filter_eq_nil_iff]
        intro q hq
        have := hp.1 q hq
        simp
        omega
      have hfn : r.find? (fun m => decide (m.a = n)) = none := by
        rw [List.find?_eq_none]
        intro q hq
        have := hp.1 q hq
        simp
        omega
      rw [List.filter_cons, if_neg (by simp; omega), List.filter_cons, if_neg (by simp; omega), List.find?_cons_of_neg (by simp; omega), he _ (by omega), he _ (by omega), hfn]
      rfl
theorem wr_pair (h : wrB S = true) : List.Pairwise (fun a b : E2 => a.a < b.a) S := by
  rw [List.pairwise_iff_getElem]
  intro i j hi hj hij
  exact wr_ne h (List.getElem?_eq_getElem hi) (List.getElem?_eq_getElem hj) hij
theorem inst_k (o : Ok9 C R S i z h) : ∀ n, n ≤ 6 → instK (insC C i z h R S) i z n = (S.filter (fun m => decide (m.a < (n : Int)))).map (nwV i z)
  | 0, _ => by
    have : S.filter (fun m => decide (m.a < ((0 : Nat) : Int))) = [] := by
      rw [List.filter_eq_nil_iff]
      intro m hm
      obtain ⟨j, hj, rfl⟩ := List.getElem_of_mem hm
      have := wr_key o.asc (List.getElem?_eq_getElem hj)
      simp
      omega
    rw [this]
    rfl
  | n + 1, hn => by
    rw [instK_step, inst_k o n (by omega), inst_at o n (by omega), Int.natCast_add, Int.natCast_one, find_split _ (wr_pair o.asc), List.map_append]
    congr 1
    cases S.find? _ <;> rfl
/-- one version for each write -/
theorem inst_all (o : Ok9 C R S i z h) : instK (insC C i z h R S) i z 6 = S.map (nwV i z) := by
  rw [inst_k o 6 (Nat.le_refl _)]
  congr 1
  rw [List.filter_eq_self]
  intro m hm
  obtain ⟨j, hj, rfl⟩ := List.getElem_of_mem hm
  have := wr_key o.asc (List.getElem?_eq_getElem hj)
  simp
  omega
theorem inst_cm {x : Hd} (hc : Go.Proofs.YthbbpfgjbidbhaaGreatDoor.ct.cmB C x R S z = true) : instL (cmC C x R S z) (cmX C x R S z) R S = S.map (nwV x.i z) ∧ cstI (cmX C x R S z) R S = z ∧ stB (cmC C x R S z) = true := by
  obtain ⟨ok, hf, htx, ht, hl⟩ := cm_ok hc
  obtain ⟨t1, t2, t3, t4, t5⟩ := cm_tx hc
  have e : cmC C x R S z = insC C x.i z (fwH C x R S z) R S := if_pos hc
  have hcs : cstI (cmX C x R S z) R S = z := by rw [cst_yes t1 t2, t4]
  have hst : stB (cmC C x R S z) = true := by rw [e]; exact ins_st ok
  have hb : instB (cmC C x R S z) (cmX C x R S z) R S = true := by
    unfold instB
    rw [hcs, hst, decide_eq_true (show z ≠ 0 by omega)]
    rfl
  refine ⟨?_, hcs, hst⟩
  unfold instL
  rw [if_pos hb, t3, hcs, e]
  exact inst_all ok
/-! counts -/
theorem sum_set : ∀ (l : List Nat) (k : Nat) (x : Nat), k < l.length → (l.set k x).sum + l.getD k 0 = l.sum + x
  | [], k, x, h => by simp at h
  | a :: r, 0, x, h => by simp [List.getD]; omega
  | a :: r, k + 1, x, h => by
    have := sum_set r k x (by simpa using h)
    simp only [List.getD] at this
    simp only [List.set_cons_succ, List.sum_cons, List.getD, List.getElem?_cons_succ]
    omega
theorem cnt_onK {f : List Ver → List Ver} {k : Int} (hk : k.toNat < C.length) : cnt (onK f C k) + (chOf C k).length = cnt C + (f (chOf C k)).length := by
  unfold cnt onK
  rw [List.map_set]
  have := sum_set (C.map List.length) k.toNat (f (chOf C k)).length (by simpa using hk)
  rw [← this]
  congr 1
  simp [chOf, List.getD, List.getElem?_map]
  cases C[k.toNat]? <;> rfl
theorem cnt_rd (h6 : C.length = 6) (hR : ∀ m ∈ R, 0 ≤ m.a ∧ m.a ≤ 5) : ∀ n, n ≤ R.length → (rdK z C R n).length = 6 ∧ cnt (rdK z C R n) = cnt C
  | 0, _ => ⟨h6, rfl⟩
  | n + 1, hn => by
    obtain ⟨h1, h2⟩ := cnt_rd h6 hR n (by omega)
    have hx : R[n]? = some R[n] := List.getElem?_eq_getElem (by omega)
    obtain ⟨m0, m5⟩ := hR _ (List.getElem_mem (show n < R.length by omega))
    rw [rdK_step hx]
    unfold rdC
    refine ⟨by rw [onK_len]; exact h1, ?_⟩
    have := cnt_onK (f := rdL z R[n].b) (C := rdK z C R n) (k := R[n].a) (by omega)
    have e1 : ∀ l, (rdL z R[n].b l).length = l.length := fun l => atJ_len _ _ _
    rw [e1] at this
    omega
theorem cnt_wr {C1 : List (List Ver)} (h6 : C1.length = 6) (hS : wrB S = true) : ∀ n, n ≤ S.length → (wrK i z h C1 S n).length = 6 ∧ cnt (wrK i z h C1 S n) = cnt C1 + n
  | 0, _ => ⟨h6, rfl⟩
  | n + 1, hn => by
    obtain ⟨h1, h2⟩ := cnt_wr h6 hS n (by omega)
    have hx : S[n]? = some S[n] := List.getElem?_eq_getElem (by omega)
    obtain ⟨m0, m5, _⟩ := wr_key hS hx
    rw [wrK_step hx]
    unfold wrC
    refine ⟨by rw [onK_len]; exact h1, ?_⟩
    have := cnt_onK (f := wrL h (nwV i z S[n])) (C := wrK i z h C1 S n) (k := S[n].a) (by omega)
    have e1 : ∀ l, (wrL h (nwV i z S[n]) l).length = l.length + 1 := fun l => by simp [wrL, atJ_len]
    rw [e1] at this
    omega
theorem ins_cnt (o : Ok9 C R S i z h) : cnt (insC C i z h R S) = cnt C + S.length := by
  obtain ⟨r1, r2⟩ := cnt_rd (z := z) (st_six o.st) o.rk R.length (Nat.le_refl _)
  rw [← r2]
  exact (cnt_wr (i := i) (z := z) (h := h) r1 o.asc S.length (Nat.le_refl _)).2
/-! earlier states -/
/-- l' begins with versions of the creations and values of l -/
def Beg (l l' : List Ver) : Prop := ∀ k, k < l.length → (l'.getD k default).c = (l.getD k default).c ∧ (l'.getD k default).b = (l.getD k default).b
theorem beg_at {l l' : List Ver} {s : Int} (h : Beg l l') : ∀ n, n ≤ l.length → atI s l' n = atI s l n
  | 0, _ => rfl
  | n + 1, hn => by
    unfold atI
    rw [(h n (by omega)).1, beg_at h n (by omega)]
theorem like_beg {l l' : List Ver} (h : Like z l l') : Beg l l' := fun k hk => by
  have hk' : k < l'.length := by rw [h.1]; exact hk
  obtain ⟨_, b, c, _⟩ := h.2 k _ _ (List.getElem?_eq_getElem hk) (List.getElem?_eq_getElem hk')
  simp only [List.getD, List.getElem?_eq_getElem hk, List.getElem?_eq_getElem hk', Option.getD_some]
  exact ⟨c, b⟩
theorem wr_beg {l : List Ver} (v : Ver) (h : Int) : Beg l (wrL h v l) := fun k hk => by
  have h1 : (wrL h v l).getD k default = (atJ (suV h) l (l.length - 1)).getD k default := by
    unfold wrL
    simp only [List.getD]
    rw [List.getElem?_append_left (by rw [atJ_len]; exact hk)]
  have hk' : k < (atJ (suV h) l (l.length - 1)).length := by rw [atJ_len]; exact hk
  obtain ⟨u, hu, e⟩ := atJ_get (List.getElem?_eq_getElem hk')
  rw [h1]
  simp only [List.getD, List.getElem?_eq_getElem hk', hu, Option.getD_some]
  rw [e]
  split <;> exact ⟨rfl, rfl⟩
theorem Beg.trans {l l' l'' : List Ver} (h : Beg l l') (h2 : Beg l' l'') (hl : l'.length = l.length) : Beg l l'' := fun k hk =>
  ⟨(h2 k (by omega)).1.trans (h k hk).1, (h2 k (by omega)).2.trans (h k hk).2⟩
/-- an earlier stamp finds the same place with the same value -/
theorem ins_at (o : Ok9 C R S i z h) {s k : Int} (hs : s < z) (k0 : 0 ≤ k) (k5 : k ≤ 5) : vAt (chOf (insC C i z h R S) k) s = vAt (chOf C k) s ∧ ∀ j : Nat, j < (chOf C k).length → ((chOf (insC C i z h R S) k).getD j default).b = ((chOf C k).getD j default).b := by
  obtain ⟨l0, hl0, hch0, e0⟩ := chain_key o.st k0 k5
  obtain ⟨l1, hL, hw⟩ := ins_key o k0 k5
  have h6 := ins_len o
  have hst := ins_st o
  obtain ⟨l9, _, hch9, e9⟩ := chain_key hst k0 k5
  have hb : Beg (chOf C k) (chOf (insC C i z h R S) k) := by
    rcases hw with ⟨m, hm, hk, e⟩ | ⟨_, e⟩
    · rw [e]; exact (like_beg hL).trans (wr_beg _ _) hL.1
    · rw [e]; exact like_beg hL
  refine ⟨?_, fun j hj => (hb j hj).2⟩
  have q0 : chB (chOf C k) = true := by rw [e0]; exact hch0
  have q9 : chB (chOf (insC C i z h R S) k) = true := by rw [e9]; exact hch9
  rw [vAt, if_pos q9, vAt, if_pos q0, ← beg_at hb _ (Nat.le_refl _)]
  rcases hw with ⟨m, hm, hk, e⟩ | ⟨_, e⟩
  · have hlen : (chOf (insC C i z h R S) k).length = (chOf C k).length + 1 := by
      rw [e]
      simp only [wrL, List.length_append, atJ_len, List.length_cons, List.length_nil, hL.1]
    rw [hlen]
    have hlast : (chOf (insC C i z h R S) k)[(chOf C k).length]? = some (nwV i z m) := by
      rw [e]
      unfold wrL
      rw [List.getElem?_append_right (by rw [atJ_len, hL.1]; exact Nat.le_refl _), atJ_len, hL.1]
      simp
    exact Go.Proofs.YthbbpfgjbidbhaaGreatDoor.find.at_miss hlast (by show ¬ z ≤ s; omega)
  · have hlen : (chOf (insC C i z h R S) k).length = (chOf C k).length := by rw [e]; exact hL.1
    rw [hlen]
theorem ins_ra (o : Ok9 C R S i z h) {s k : Int} (hs : s < z) (k0 : 0 ≤ k) (k5 : k ≤ 5) : raB (insC C i z h R S) k s = raB C k s ∧ (raV (insC C i z h R S) k s).b = (raV C k s).b := by
  obtain ⟨h1, h2⟩ := ins_at o hs k0 k5
  have hb : raB (insC C i z h R S) k s = raB C k s := by
    unfold raB rlB
    rw [ins_st o, o.st]
    show (_ && decide (0 ≤ vAt (chOf (insC C i z h R S) k) s)) = (_ && decide (0 ≤ vAt (chOf C k) s))
    rw [h1]
  refine ⟨hb, ?_⟩
  unfold raV
  rw [hb]
  split
  · rename_i hra
    show ((chOf (insC C i z h R S) k).getD (vAt (chOf (insC C i z h R S) k) s).toNat default).b = ((chOf C k).getD (vAt (chOf C k) s).toNat default).b
    rw [h1]
    refine h2 _ ?_
    obtain ⟨l0, hl0, hch0, e0⟩ := chain_key o.st k0 k5
    have hr := Go.Proofs.YthbbpfgjbidbhaaGreatDoor.rd.vAt_range s (l := chOf C k) (by rw [e0]; exact hch0)
    simp only [raB, Bool.and_eq_true, decide_eq_true_eq] at hra
    have := hra.2
    have h3 : 0 ≤ vAt (chOf C k) s := this
    omega
  · rfl
theorem ins_sa (o : Ok9 C R S i z h) : saL (insC C i z h R S) (z - 1) = saL C (z - 1) := by
  have hs : z - 1 < z := by omega
  have e : saV (insC C i z h R S) (z - 1) 6 = saV C (z - 1) 6 := by
    unfold saV
    refine List.map_congr_left fun k hk => ?_
    rw [List.mem_range] at hk
    exact (ins_ra o hs (by omega) (by omega)).2
  by_cases h1 : RdOk C (z - 1) 6
  · have h2 : RdOk (insC C i z h R S) (z - 1) 6 := fun k hk => by rw [(ins_ra o hs (by omega) (by omega)).1]; exact h1 k hk
    rw [saL_yes h1, saL_yes h2, e]
  · have h2 : ¬ RdOk (insC C i z h R S) (z - 1) 6 := fun hh => h1 fun k hk => by rw [← (ins_ra o hs (by omega) (by omega)).1]; exact hh k hk
    rw [saL_not h1, saL_not h2]
end
end Go.Proofs.YthbbpfgjbidbhaaGreatDoor.cq
