/- A step: the law's own helpers over it (count, copy, comparison), opening one; EqualSteps of the program and of the model. -/
import Derived.Test.YtjnlbhmddhpmaaaDoorInts
import Derived.Test.YtjnlbhmddhpmaaaDoorOpenI
import Derived.WalkKit
import Derived.ProofKit
import Derived.OpenShut
import Derived.Below
import Derived.Lib.Hide
import Derived.LoopTactic
import Derived.Deep.QuietTactic
import Derived.BigQuiet
import Derived.StillTailTactics
import Derived.Outline
import Derived.IntWalk
import Derived.Deep.OwnRows
import Derived.Deep.Slices
import Derived.Deep.DeepHandedRow
import Derived.Laws.MakeOwn
import Derived.Laws.Entries
namespace Go.Proofs.YtjnlbhmddhpmaaaDoor.stp
open Go.ChangeShapes Go.WideShapes Go.ChangeAt Go.RowKit
open Go.Deep (open_slice add_add)
open Go.Proofs.YtjnlbhmddhpmaaaDoor.vers (new1 new2 new3 ret_b)
open Go.Proofs.YtjnlbhmddhpmaaaDoor.sl (below_le)
open Go.Proofs.YtjnlbhmddhpmaaaDoor.ints (Is same_ints)
open Go.Proofs.YtjnlbhmddhpmaaaDoor.opni (open_intS)
set_option linter.unusedVariables false
set_option linter.unusedSimpArgs false
set_option linter.constructorNameAsVariable false
theorem lt_get {α : Type} {l : List α} {k : Nat} {x : α} (h : l[k]? = some x) : k < l.length := by
  rcases Nat.lt_or_ge k l.length with h' | h'
  · exact h'
  · rw [List.getElem?_eq_none h'] at h; cases h
theorem bdrewN {B : Nat} {w w' : World} (h : Below B w w') (n : Nat) : Below B w (w'.drewN n) := ⟨h.os, h.tape, h.output, h.size, h.block⟩
theorem ret_i {a b : Int} (h : a = b) : Ending.returned (.int .i64 a) = .returned (.int .i64 b) := by rw [h]
/-- block N is a row of n integers; the first k are those of l -/
def IRow (w : World) (N n : Nat) (l : List Int) (k : Nat) : Prop := w.rowIs N 3 n (fun i => if i < k then .int .i64 (l.getD i 0) else .int .i64 0)
theorem info_int : (Tryd.prog.info? 3).map (fun i => (i.zero, i.size, i.bytes)) = some (some (.int .i64 0), 1, 8) := by kernel_rfl
theorem make_ints (n : Nat) (hn : n ≤ 1048576) (w : World) :
    (Instr.makeSlice 22 (.int .i64 (n : Int)) (.int .i64 (n : Int))).run Tryd.prog w = .ok (.slice (some ⟨w.heap.size, 0, none⟩) n n) (w.alloc (.cells (madeCells #[.int .i64 0] n) 3)) := by
  obtain ⟨i0, hi, hz0, hz1, hz2⟩ := info_parts info_int
  have hr := run_make (P := Tryd.prog) w 22 3 i0 _ Tryd.underlying22 hi hz0 .i64 .i64 n n (by omega) (by omega) (by rw [hz2]; omega) (by omega)
  simp only [Int.toNat_natCast, hz1, Value.cells, Nat.mul_one] at hr
  exact hr
set_option maxRecDepth 100000 in
set_option maxHeartbeats 800000 in
theorem copy_ints {w : World} {B n c : Nat} {A : Option Addr} {l : List Int} (hn : n ≤ 1048576) (h1 : Is w B A n l) (hB : B ≤ w.heap.size) :
    Calls Tryd.prog 20 #[.slice A n c] w fun e w' => ∃ N, e = .returned (.slice (some ⟨N, 0, none⟩) n n) ∧ w.heap.size ≤ N ∧ Is w' w'.heap.size (some ⟨N, 0, none⟩) n l ∧ Below w.heap.size w w' := by
  have H1 := Lib.hid h1
  have hln := h1.1
  have hmk := make_ints n hn w
  clear h1
  go_enter Tryd.func20, Tryd.ntmps20
  go_wp2
  have hR0 : IRow (w.alloc (.cells (madeCells #[.int .i64 0] n) 3)) w.heap.size n l 0 := (World.rowIs_made w (.int .i64 0) n 3).congr fun i hi => by simp
  have hb0 := new1 w (.cells (madeCells #[.int .i64 0] n) 3)
  obtain ⟨N, hN⟩ : ∃ N, N = w.heap.size := ⟨_, rfl⟩
  rw [← hN] at hR0
  simp only [← hN]
  generalize w.alloc (.cells (madeCells #[.int .i64 0] n) 3) = w0 at hR0 hb0 ⊢
  have hN2 : w.heap.size ≤ N := by omega
  clear hN hmk
  go_loopw [4] (fun i wr => ∃ k : Nat, k ≤ n ∧ i = .int .i64 k ∧ IRow wr N n l k ∧ Below w.heap.size w wr) (fun i _ => n - (intOf i).toNat)
  case atStart => exact ⟨0, by omega, rfl, hR0, hb0⟩
  case round =>
    obtain ⟨k, hk, rfl, hR, hb⟩ := hrel
    have hNl : N < wr.heap.size := World.rowIs.lt hR
    by_cases hlt : k < n
    · obtain ⟨b, o, x, rfl, hbB, hx, hcx⟩ := (H1.out.below (below_le hb hB)).at_ hlt
      obtain ⟨u, hu⟩ : ∃ u, wr.cell? ⟨N, k, none⟩ = some u := ⟨_, World.rowIs.cell hR hlt⟩
      have hf := World.rowIs.frozen hR k
      have HB := Lib.hid hb
      have HR := Lib.hid hR
      have HX := Lib.hid hx
      clear hb hx hR hR0 hb0
      go_wp2_with fail
      go_roundw
      case rel =>
        refine ⟨k + 1, by omega, by go_num, ?_, HB.out.setCell hN2 _⟩
        refine (World.rowIs.set HR.out k (.int .i64 x)).congr fun i hi => ?_
        by_cases e : i = k
        · subst e
          rw [if_pos rfl, if_pos (by omega)]
          simp [List.getD, HX.out]
        · rw [if_neg e]
          by_cases h2 : i < k
          · rw [if_pos h2, if_pos (by omega)]
          · rw [if_neg h2, if_neg (by omega)]
      case measure => simp [intOf]; omega
    · obtain rfl : k = n := by omega
      have HB := Lib.hid hb
      have HR := Lib.hid hR
      clear hb hR hR0 hb0
      go_wp2
      go_ret
      refine ⟨N, rfl, hN2, ⟨hln, fun _ => ⟨N, 0, rfl, hNl, fun i x hx => ?_⟩⟩, HB.out⟩
      have hi := lt_get hx
      have := World.rowIs.cell HR.out (i := i) (by omega)
      rw [Nat.zero_add, this, if_pos (by omega)]
      simp [List.getD, hx]

def szV (left : Int) (n : Nat) : Int := if left < (n : Int) then (-1 : Int) else left - n
theorem szK_no {left : Int} {n : Nat} (h : left < n) : szV left n = -1 := if_pos h
theorem szK_yes {left : Int} {n : Nat} (h : ¬ left < n) : szV left n = left - n := if_neg h
theorem count_i (A : Option Addr) (n c : Nat) (left : Int) (w : World) (hn : n ≤ 9223372036854775807) (h0 : 0 ≤ left) (h1 : left ≤ 1048576) :
    Calls Tryd.prog 17 #[.slice A n c, .int .i64 left] w fun e w' => e = .returned (.int .i64 (szV left n)) ∧ w = w' := by
  by_cases h : left < n
  · have HZ := Lib.hid (szK_no h)
    have t : decide (left - (n : Int) < 0) = true := decide_eq_true (by omega)
    go_enter Tryd.func17, Tryd.ntmps17
    go_wp2
    go_ret
    exact ⟨ret_i HZ.out.symm, rfl⟩
  · have HZ := Lib.hid (szK_yes h)
    have t : decide (left - (n : Int) < 0) = false := decide_eq_false (by omega)
    go_enter Tryd.func17, Tryd.ntmps17
    go_wp2
    go_ret
    exact ⟨ret_i HZ.out.symm, rfl⟩
/-- the two cells of block b -/
def SB (w : World) (b : Nat) (k : Int) (u : Value) : Prop := w.cell? ⟨b, 0, none⟩ = some (.int .i64 k) ∧ w.cell? ⟨b, 1, none⟩ = some u
section
variable {w w' : World} {B b : Nat} {k : Int} {u : Value}
theorem SB.of_block (h : SB w b k u) (hk : w'.heap[b]? = w.heap[b]?) : SB w' b k u := ⟨(World.cell?_of_block (w := w) (a := ⟨b, 0, none⟩) hk).trans h.1, (World.cell?_of_block (w := w) (a := ⟨b, 1, none⟩) hk).trans h.2⟩
theorem SB.keep (h : SB w b k u) (hb : b < B) (hk : Below B w w') : SB w' b k u := h.of_block (hk.block b hb)
theorem SB.new (w : World) (k : Int) (u : Value) (t : TypeId) : SB (w.alloc (.cells #[.int .i64 k, u] t)) w.heap.size k u := ⟨World.cell?_alloc_mark w _ t _ 0, World.cell?_alloc_mark w _ t _ 1⟩
end
theorem count_step (k : Int) (A : Option Addr) (n c : Nat) (left : Int) (w : World) (hn : n ≤ 9223372036854775807) (h0 : 0 ≤ left) (h1 : left ≤ 1048576) :
    Calls Tryd.prog 6 #[.agg #[.int .i64 k, .slice A n c], .int .i64 left] w fun e w' => e = .returned (.int .i64 (szV left n)) ∧ Below w.heap.size w w' := by
  have hb := new1 w (.cells #[.int .i64 k, .slice A n c] 24)
  generalize hz : szV left n = y
  have HZ := Lib.hid hz
  by_cases h : left < n
  · have ty : decide (y < 0) = true := decide_eq_true (by rw [← hz, szK_no h]; decide)
    have HY : Hid (y = -1) := Lib.hid (by rw [← hz, szK_no h])
    clear hz
    go_enter Tryd.func6, Tryd.ntmps6
    go_wp2_with fail
    refine (count_i A n c left _ hn h0 h1).mono ?_
    rintro e W ⟨rfl, rfl⟩
    rw [HZ.out]
    go_wp2_with fail
    go_ret
    exact ⟨ret_i HY.out.symm, hb⟩
  · have ty : decide (y < 0) = false := decide_eq_false (by rw [← hz, szK_yes h]; omega)
    clear hz
    go_enter Tryd.func6, Tryd.ntmps6
    go_wp2_with fail
    refine (count_i A n c left _ hn h0 h1).mono ?_
    rintro e W ⟨rfl, rfl⟩
    rw [HZ.out]
    go_wp2_with fail
    go_ret
    exact ⟨rfl, hb⟩
set_option maxRecDepth 100000 in
set_option maxHeartbeats 1600000 in
theorem copy_step {w : World} {B n c : Nat} {A : Option Addr} {l : List Int} (k : Int) (hn : n ≤ 1048576) (h1 : Is w B A n l) (hB : B ≤ w.heap.size) :
    Calls Tryd.prog 8 #[.agg #[.int .i64 k, .slice A n c]] w fun e w' => ∃ N, e = .returned (.agg #[.int .i64 k, .slice (some ⟨N, 0, none⟩) n n]) ∧ Is w' w'.heap.size (some ⟨N, 0, none⟩) n l ∧ Below w.heap.size w w' := by
  have H1 := Lib.hid h1
  clear h1
  have W1 : (w.alloc (.cells #[.int .i64 k, .slice A n c] 24)).heap.size = w.heap.size + 1 := by simp
  have W2 : ((w.alloc (.cells #[.int .i64 k, .slice A n c] 24)).alloc (.cells #[.int .i64 0, .slice none 0 0] 27)).heap.size = w.heap.size + 1 + 1 := by simp
  have ta := ((SB.new w k (.slice A n c) 24).keep (by simp) (new1 _ (.cells #[.int .i64 0, .slice none 0 0] 27))).keep (by simp; omega) (new1 _ (.cells #[.int .i64 k, .slice none 0 0] 27))
  have r1 := (World.rowIs_alloc (w.alloc (.cells #[.int .i64 k, .slice A n c] 24)) #[.int .i64 0, .slice none 0 0] 27 (fun i => if i = 0 then .int .i64 0 else .slice none 0 0) (fun i hi => by match i, hi with | 0, _ => rfl | 1, _ => rfl)).alloc (.cells #[.int .i64 k, .slice none 0 0] 27)
  have r2 := World.rowIs_alloc ((w.alloc (.cells #[.int .i64 k, .slice A n c] 24)).alloc (.cells #[.int .i64 0, .slice none 0 0] 27)) #[.int .i64 k, .slice none 0 0] 27 (fun i => if i = 0 then .int .i64 k else .slice none 0 0) (fun i hi => by match i, hi with | 0, _ => rfl | 1, _ => rfl)
  rw [W1] at r1
  rw [W2] at r2
  have hb := new3 w (.cells #[.int .i64 k, .slice A n c] 24) (.cells #[.int .i64 0, .slice none 0 0] 27) (.cells #[.int .i64 k, .slice none 0 0] 27)
  have hs : (((w.alloc (.cells #[.int .i64 k, .slice A n c] 24)).alloc (.cells #[.int .i64 0, .slice none 0 0] 27)).alloc (.cells #[.int .i64 k, .slice none 0 0] 27)).heap.size = w.heap.size + 3 := by simp
  clear W1 W2
  go_enter Tryd.func8, Tryd.ntmps8
  go_wp2_with fail
  generalize ((w.alloc _).alloc _).alloc _ = W0 at ta r1 r2 hb hs ⊢
  have HB0 := Lib.hid hb
  have R1 := Lib.hid r1
  have R2 := Lib.hid r2
  have h1 := H1.out.below (below_le hb hB)
  clear hb ta r1 r2
  refine (copy_ints hn h1 (by omega)).mono ?_
  rintro e V ⟨N, rfl, hN, hv, hb⟩
  have hs1 := hb.size
  have R1 := Lib.hid (R1.out.of_block (hb.block _ (by omega)))
  have R2 := Lib.hid (R2.out.of_block (hb.block _ (by omega)))
  have HB1 := Lib.hid (HB0.out.trans (hb.mono HB0.out.size))
  have HV := Lib.hid hv
  clear hb hv h1
  have c1 := R2.out.cell (i := 1) (show 1 < 2 by decide)
  have g1 := R2.out.frozen 1
  have c0 : V.cell? ⟨w.heap.size + 1 + 1, 0, none⟩ = some (.int .i64 k) := R2.out.cell (show 0 < 2 by decide)
  have y0 : V.cell? ⟨w.heap.size + 1, 0, none⟩ = some (.int .i64 0) := R1.out.cell (show 0 < 2 by decide)
  have y1 : V.cell? ⟨w.heap.size + 1, 1, none⟩ = some (.slice none 0 0) := R1.out.cell (show 1 < 2 by decide)
  have x0 := R1.out.frozen 0
  have x1 := R1.out.frozen 1
  go_wp2_with fail
  have r1 := ((R1.out.setOther (a := ⟨w.heap.size + 1 + 1, 1, none⟩) (by simp) (.slice (some ⟨N, 0, none⟩) n n)).set 0 (.int .i64 k)).set 1 (.slice (some ⟨N, 0, none⟩) n n)
  have hb := ((HB1.out.setCell (p := ⟨w.heap.size + 1 + 1, 1, none⟩) (by simp only; omega) (.slice (some ⟨N, 0, none⟩) n n)).setCell (p := ⟨w.heap.size + 1, 0, none⟩) (by simp only; omega) (.int .i64 k)).setCell (p := ⟨w.heap.size + 1, 1, none⟩) (by simp only; omega) (.slice (some ⟨N, 0, none⟩) n n)
  have hv : Is (((V.setCell ⟨w.heap.size + 1 + 1, 1, none⟩ (.slice (some ⟨N, 0, none⟩) n n)).setCell ⟨w.heap.size + 1, 0, none⟩ (.int .i64 k)).setCell ⟨w.heap.size + 1, 1, none⟩ (.slice (some ⟨N, 0, none⟩) n n)) (((V.setCell ⟨w.heap.size + 1 + 1, 1, none⟩ (.slice (some ⟨N, 0, none⟩) n n)).setCell ⟨w.heap.size + 1, 0, none⟩ (.int .i64 k)).setCell ⟨w.heap.size + 1, 1, none⟩ (.slice (some ⟨N, 0, none⟩) n n)).heap.size (some ⟨N, 0, none⟩) n l := ⟨HV.out.1, fun hn => by
    obtain ⟨b, o, e, hbl, hc⟩ := HV.out.2 hn
    refine ⟨b, o, e, by simpa using hbl, fun i x hx => ?_⟩
    injection e with e
    injection e with e e2
    subst e e2
    rw [World.cell?_setCell_other _ _ _ _ (by simp <;> omega), World.cell?_setCell_other _ _ _ _ (by simp <;> omega), World.cell?_setCell_other _ _ _ _ (by simp <;> omega)]
    exact hc i x hx⟩
  generalize (((V.setCell _ _).setCell _ _).setCell _ _) = WF at r1 hb hv ⊢
  have e0 : WF.cell? ⟨w.heap.size + 1, 0, none⟩ = some (.int .i64 k) := r1.cell (show 0 < 2 by decide)
  have e1 : WF.cell? ⟨w.heap.size + 1, 1, none⟩ = some (.slice (some ⟨N, 0, none⟩) n n) := r1.cell (show 1 < 2 by decide)
  exact bodyPost_ret (v := .agg #[.int .i64 k, .slice (some ⟨N, 0, none⟩) n n]) (by simp [results, Tryd.results8, go_sem, e0, e1]) rfl ⟨N, rfl, hv, hb⟩
theorem same_step {w : World} {B n c c2 : Nat} {A A2 : Option Addr} {l : List Int} (k : Int) (hn : n ≤ 140737488355328) (h1 : Is w B A n l) (h2 : Is w B A2 n l) (hB : B ≤ w.heap.size) :
    Calls Tryd.prog 10 #[.agg #[.int .i64 k, .slice A n c], .agg #[.int .i64 k, .slice A2 n c2]] w fun e w' => e = .returned (.bool true) ∧ Below w.heap.size w w' := by
  have H1 := Lib.hid h1
  have H2 := Lib.hid h2
  clear h1 h2
  have t : (k == k) = true := by simp
  go_enter Tryd.func10, Tryd.ntmps10
  go_wp2_with fail
  have hb := new2 w (.cells #[.int .i64 k, .slice A n c] 27) (.cells #[.int .i64 k, .slice A2 n c2] 27)
  generalize (w.alloc _).alloc _ = W0 at hb ⊢
  have HB0 := Lib.hid hb
  have hs := hb.size
  have h1 := Lib.hid (H1.out.below (below_le hb hB))
  have h2 := Lib.hid (H2.out.below (below_le hb hB))
  clear hb
  refine (same_ints (B := B) hn h1.out h2.out (by omega)).mono ?_
  rintro e W1 ⟨rfl, hb1⟩
  have HB1 := Lib.hid (HB0.out.trans (hb1.mono (by omega)))
  clear hb1
  go_wp2_with fail
  go_ret
  exact ⟨rfl, HB1.out⟩
/-! EqualSteps -/
def iB (l m : List Int) : Bool := decide (l = m)
theorem iB_len {l m : List Int} (h : l.length ≠ m.length) : iB l m = false := decide_eq_false fun e => h (by rw [e])
theorem iB_at {l m : List Int} {k : Nat} {x y : Int} (hx : l[k]? = some x) (hy : m[k]? = some y) (h : x ≠ y) : iB l m = false := decide_eq_false fun e => h (by rw [e, hy] at hx; exact (Option.some.inj hx).symm)
theorem iB_all {l m : List Int} {n : Nat} (hl : l.length = n) (hm : m.length = n) (h : l.take n = m.take n) : iB l m = true := decide_eq_true (by rwa [List.take_of_length_le (by omega), List.take_of_length_le (by omega)] at h)
theorem lt_x {l : List Int} {k : Nat} {x : Int} (h : l[k]? = some x) : k < l.length := by
  rcases Nat.lt_or_ge k l.length with h' | h'
  · exact h'
  · rw [List.getElem?_eq_none h'] at h; cases h
theorem iB_step {l m : List Int} {k : Nat} {x : Int} (h : l.take k = m.take k) (hx : l[k]? = some x) (hy : m[k]? = some x) : l.take (k + 1) = m.take (k + 1) := by
  have h1 := lt_x hx
  have h2 := lt_x hy
  rw [List.getElem?_eq_getElem h1] at hx
  rw [List.getElem?_eq_getElem h2] at hy
  rw [List.take_succ_eq_append_getElem h1, List.take_succ_eq_append_getElem h2, h, Option.some.inj hx, Option.some.inj hy]
def eqP (k : Int) (l : List Int) (k' : Int) (l' : List Int) : Bool := decide (k = k') && iB l l'
section
variable {H : Type} {enc : TypeId × Value → H} {w : World} {base : Nat} {spare : Nat → Bool} {held : Bool}
set_option maxRecDepth 100000 in
theorem open_step {r : Reach} {b0 : Nat} {v : Value} {d : DataW H} {p : List MemPlace} (hv : Value.okWide Tryd.prog w r b0 24 v) (h : DataW.Trod enc Tryd.prog w base spare held 24 v d p) :
    ∃ (k : Int) (A : Option Addr) (n c : Nat) (L : List Int), v = .agg #[.int .i64 k, .slice A n c] ∧ Is w w.heap.size A n L ∧ n ≤ maxLen := by
  obtain ⟨cs, rfl, hsz⟩ := okWide_struct Tryd.underlying24 hv
  obtain ⟨l⟩ := cs
  obtain ⟨fuel, hf⟩ := h
  obtain ⟨xs, n, _, _, hlen, hxl, hf⟩ := DataW.trod_struct Tryd.underlying24 hf
  have hC : Tryd.prog.cellsOf 24 = 2 := by kernel_rfl
  rw [hC] at hlen
  change l.length = 2 at hlen
  match l, hlen with
  | [d0, d1], _ =>
    match xs, hxl with
    | [y0, y1], _ =>
      have g0 := hf 0 _ rfl
      have g1 := hf 1 _ rfl
      obtain ⟨k, ha0, _, _⟩ := DataW.trod_int (cs := [d0]) Tryd.underlying3 g0
      have h2 : ∃ A n c, [d1] = [Value.slice A n c] := by
        rcases open_slice (cs := [d1]) Tryd.underlying22 g1 with ⟨hcs, _⟩ | ⟨a, len', cap', m, n, D, Pl, hcs, _⟩
        · exact ⟨none, 0, 0, hcs⟩
        · exact ⟨some a, len', cap', hcs⟩
      obtain ⟨A, n1, c1, ha1⟩ := h2
      simp only [List.cons.injEq, and_true] at ha0 ha1
      subst ha0 ha1
      obtain ⟨L, hs, hm⟩ := open_intS (A := A) (len := n1) (cap := c1) (d := y1.1) (p := y1.2) ⟨_, g1⟩
      exact ⟨k, A, n1, c1, L, rfl, hs, hm⟩
end
end Go.Proofs.YtjnlbhmddhpmaaaDoor.stp
