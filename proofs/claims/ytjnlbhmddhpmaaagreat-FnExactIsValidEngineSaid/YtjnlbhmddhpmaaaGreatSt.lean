/- A slice of slices of versions read as a list of lists; the law's own helpers over stores: how much they count, the copy, the comparison. Nothing that was there is written. -/
import Derived.Test.YtjnlbhmddhpmaaaGreatCh
import Derived.WalkKit
import Derived.ProofKit
import Derived.Below
import Derived.Lib.Hide
import Derived.LoopTactic
import Derived.Deep.QuietTactic
import Derived.BigQuiet
import Derived.StillTailTactics
import Derived.Outline
import Derived.IntWalk
import Derived.Deep.OwnRows
import Derived.Laws.MakeOwn
import Derived.Laws.Entries
namespace Go.Proofs.YtjnlbhmddhpmaaaGreat.st
open Go.ChangeShapes Go.WideShapes Go.ChangeAt Go.RowKit
open Go.Proofs.YtjnlbhmddhpmaaaGreat.vers Go.Proofs.YtjnlbhmddhpmaaaGreat.sl Go.Proofs.YtjnlbhmddhpmaaaGreat.ch
set_option linter.unusedVariables false
set_option linter.unusedSimpArgs false
/-- the cell at a holds a slice that reads as the list l -/
def SlC (w : World) (B : Nat) (a : Addr) (l : List Ver) : Prop := ∃ A n c, w.cell? a = some (.slice A n c) ∧ n ≤ 140737488355328 ∧ Vs w B A n l
/-- the slice value '.slice A n c' reads as the list of lists ll, in memory below B -/
def Rs (w : World) (B : Nat) (A : Option Addr) (n : Nat) (ll : List (List Ver)) : Prop :=
  ll.length = n ∧ (0 < n → ∃ b o, A = some ⟨b, o, none⟩ ∧ b < B ∧ ∀ k l, ll[k]? = some l → SlC w B ⟨b, o + k, none⟩ l)
section
variable {w w' : World} {B B' n : Nat} {A : Option Addr} {ll : List (List Ver)} {l : List Ver}
theorem SlC.below {a : Addr} (h : SlC w B a l) (ha : a.block < B) (hk : Below B w w') : SlC w' B a l := by
  obtain ⟨A, n, c, h0, hn, hv⟩ := h
  exact ⟨A, n, c, (hk.cell ha).trans h0, hn, hv.below hk⟩
theorem SlC.more {a : Addr} (h : SlC w B a l) (hB : B ≤ B') : SlC w B' a l := by
  obtain ⟨A, n, c, h0, hn, hv⟩ := h
  exact ⟨A, n, c, h0, hn, hv.more hB⟩
theorem Rs.nil_ (w : World) (B : Nat) (A : Option Addr) : Rs w B A 0 [] := ⟨rfl, fun h => absurd h (by omega)⟩
theorem Rs.below (h : Rs w B A n ll) (hk : Below B w w') : Rs w' B A n ll := ⟨h.1, fun hn => by
  obtain ⟨b, o, e, hb, hc⟩ := h.2 hn
  exact ⟨b, o, e, hb, fun k x hx => (hc k x hx).below hb hk⟩⟩
theorem Rs.more (h : Rs w B A n ll) (hB : B ≤ B') : Rs w B' A n ll := ⟨h.1, fun hn => by
  obtain ⟨b, o, e, hb, hc⟩ := h.2 hn
  exact ⟨b, o, e, by omega, fun k x hx => (hc k x hx).more hB⟩⟩
theorem Rs.at_ (h : Rs w B A n ll) {k : Nat} (hk : k < n) : ∃ b o l A' n' c', A = some ⟨b, o, none⟩ ∧ b < B ∧ ll[k]? = some l ∧ w.cell? ⟨b, o + k, none⟩ = some (.slice A' n' c') ∧ n' ≤ 140737488355328 ∧ Vs w B A' n' l := by
  obtain ⟨b, o, e, hb, hc⟩ := h.2 (by omega)
  have hl : k < ll.length := by have := h.1; omega
  obtain ⟨A', n', c', h0, h1, h2⟩ := hc k _ (List.getElem?_eq_getElem hl)
  exact ⟨b, o, ll[k], A', n', c', e, hb, List.getElem?_eq_getElem hl, h0, h1, h2⟩
end
/-- the same, of slices of any length that a program can hold -/
def R0 (w : World) (B : Nat) (A : Option Addr) (n : Nat) (ll : List (List Ver)) : Prop :=
  ll.length = n ∧ (0 < n → ∃ b o, A = some ⟨b, o, none⟩ ∧ b < B ∧ ∀ k l, ll[k]? = some l → ∃ A' n' c', w.cell? ⟨b, o + k, none⟩ = some (.slice A' n' c') ∧ n' ≤ 9223372036854775807 ∧ Vs w B A' n' l)
theorem R0.at_ {w : World} {B n : Nat} {A : Option Addr} {ll : List (List Ver)} (h : R0 w B A n ll) {k : Nat} (hk : k < n) : ∃ b o l A' n' c', A = some ⟨b, o, none⟩ ∧ b < B ∧ ll[k]? = some l ∧ w.cell? ⟨b, o + k, none⟩ = some (.slice A' n' c') ∧ n' ≤ 9223372036854775807 ∧ Vs w B A' n' l := by
  obtain ⟨b, o, e, hb, hc⟩ := h.2 (by omega)
  have hl : k < ll.length := by have := h.1; omega
  obtain ⟨A', n', c', h0, h1, h2⟩ := hc k _ (List.getElem?_eq_getElem hl)
  exact ⟨b, o, ll[k], A', n', c', e, hb, List.getElem?_eq_getElem hl, h0, h1, h2⟩
theorem R0.below {w w' : World} {B n : Nat} {A : Option Addr} {ll : List (List Ver)} (h : R0 w B A n ll) (hk : Below B w w') : R0 w' B A n ll := ⟨h.1, fun hn => by
  obtain ⟨b, o, e, hb, hc⟩ := h.2 hn
  refine ⟨b, o, e, hb, fun k x hx => ?_⟩
  obtain ⟨A', n', c', h0, h1, h2⟩ := hc k x hx
  exact ⟨A', n', c', (hk.cell hb).trans h0, h1, h2.below hk⟩⟩
/-! how much is counted -/
theorem lt_get {α : Type} {l : List α} {k : Nat} {x : α} (h : l[k]? = some x) : k < l.length := by
  rcases Nat.lt_or_ge k l.length with h' | h'
  · exact h'
  · rw [List.getElem?_eq_none h'] at h; cases h
def tot (ll : List (List Ver)) : Nat := ll.length + (ll.map List.length).sum
def cnt (ll : List (List Ver)) : Nat := (ll.map List.length).sum
theorem cnt_take {ll : List (List Ver)} {k : Nat} {l : List Ver} (h : ll[k]? = some l) : cnt (ll.take (k + 1)) = cnt (ll.take k) + l.length := by
  have hk := lt_get h
  rw [List.getElem?_eq_getElem hk] at h
  unfold cnt
  rw [List.take_succ_eq_append_getElem hk, List.map_append, List.sum_append, Option.some.inj h]
  simp
theorem cnt_le (ll : List (List Ver)) (k : Nat) : cnt (ll.take k) ≤ cnt ll := by
  have : cnt ll = cnt (ll.take k) + cnt (ll.drop k) := by
    unfold cnt
    rw [← List.sum_append, ← List.map_append, List.take_append_drop]
  omega
theorem cnt_all {ll : List (List Ver)} {n : Nat} (h : ll.length = n) : cnt (ll.take n) = cnt ll := by rw [List.take_of_length_le (by omega)]
theorem len_le {ll : List (List Ver)} {k : Nat} {l : List Ver} (h : ll[k]? = some l) : l.length ≤ cnt ll := by
  have := cnt_take h
  have := cnt_le ll (k + 1)
  omega
theorem tot_eq (ll : List (List Ver)) : tot ll = ll.length + cnt ll := rfl
def szR (left : Int) (ll : List (List Ver)) : Int := if left < tot ll then -1 else left - tot ll
theorem szR_no {left : Int} {ll : List (List Ver)} (h : left < tot ll) : szR left ll = -1 := if_pos h
theorem szR_yes {left : Int} {ll : List (List Ver)} (h : (tot ll : Int) ≤ left) : szR left ll = left - tot ll := if_neg (by omega)
theorem ret_i {a b : Int} (h : a = b) : Ending.returned (.int .i64 a) = .returned (.int .i64 b) := by rw [h]
theorem R0.tight {w : World} {B n : Nat} {A : Option Addr} {ll : List (List Ver)} (h : R0 w B A n ll) (hc : cnt ll ≤ 140737488355328) : Rs w B A n ll := ⟨h.1, fun hn => by
  obtain ⟨b, o, e, hb, hx⟩ := h.2 hn
  refine ⟨b, o, e, hb, fun k l hl => ?_⟩
  obtain ⟨A', n', c', h0, h1, h2⟩ := hx k l hl
  have := len_le hl
  have := h2.1
  exact ⟨A', n', c', h0, by omega, h2⟩⟩
theorem R0.len {w : World} {B n : Nat} {A : Option Addr} {ll : List (List Ver)} (h : R0 w B A n ll) : ll.length = n := h.1
set_option maxRecDepth 100000 in
set_option maxHeartbeats 800000 in
theorem count_rows {w : World} {B n c : Nat} {A : Option Addr} {ll : List (List Ver)} {left : Int} (hn : n ≤ 9223372036854775807) (h1 : R0 w B A n ll) (hB : B ≤ w.heap.size) (h0 : 0 ≤ left) (hl : left ≤ 1048576) :
    Calls Tryz.prog 35 #[.slice A n c, .int .i64 left] w fun e w' => e = .returned (.int .i64 (szR left ll)) ∧ w = w' := by
  have H1 := Lib.hid h1
  have hlen := h1.1
  have hT := tot_eq ll
  clear h1
  by_cases h : left < n
  · have t : decide (left - (n : Int) < 0) = true := decide_eq_true (by omega)
    go_enter Tryz.func35, Tryz.ntmps35
    go_wp2
    go_ret
    exact ⟨ret_i (szR_no (by omega)).symm, rfl⟩
  · have t : decide (left - (n : Int) < 0) = false := decide_eq_false (by omega)
    go_enter Tryz.func35, Tryz.ntmps35
    go_wp2
    go_loopw [1, 5] (fun x i wr => ∃ k : Nat, k ≤ n ∧ i = .int .i64 k ∧ x = .int .i64 (left - n - cnt (ll.take k)) ∧ (0 : Int) ≤ left - n - cnt (ll.take k) ∧ w = wr) (fun _ i _ => n - (intOf i).toNat)
    case atStart => exact ⟨0, by omega, rfl, by simp [cnt], by simp [cnt]; omega, rfl⟩
    case round =>
      obtain ⟨k, hk, rfl, rfl, hle, rfl⟩ := hrel
      by_cases hlt : k < n
      · obtain ⟨b, o, l, A', n', c', rfl, hbB, hx, hc, hn', hv⟩ := H1.out.at_ hlt
        have hnl := hv.1
        have hs := cnt_take hx
        have hm := cnt_le ll (k + 1)
        have HX := Lib.hid hx
        clear hx hv
        generalize hy : left - (n : Int) - (cnt (ll.take k) : Int) = y at hle ⊢
        by_cases hb : y < n'
        · go_wp2_with fail
          refine (count A' n' c' y _ (by omega) hle (by omega)).mono ?_
          rintro e W ⟨rfl, rfl⟩
          rw [if_pos (by omega)]
          go_wp2_with fail
          go_ret
          exact ⟨ret_i (szR_no (by omega)).symm, rfl⟩
        · have t2 : decide (y - (n' : Int) < 0) = false := decide_eq_false (by omega)
          go_wp2_with fail
          refine (count A' n' c' y _ (by omega) hle (by omega)).mono ?_
          rintro e W ⟨rfl, rfl⟩
          rw [if_neg (by omega)]
          go_wp2_with fail
          go_roundw
          case rel => exact ⟨k + 1, by omega, by go_num, congrArg (Value.int .i64) (by omega), by omega, by first | rfl | trivial⟩
          case measure => simp [intOf]; omega
      · obtain rfl : k = n := by omega
        have ha := cnt_all hlen
        rw [ha] at hle ⊢
        have hr : left - (k : Int) - (cnt ll : Int) = szR left ll := by rw [szR_yes (by omega)]; omega
        have HR := Lib.hid hr
        clear hr
        go_wp2_with fail
        go_ret
        exact ⟨ret_i HR.out, rfl⟩
theorem count_store {w : World} {B n c : Nat} {A : Option Addr} {ll : List (List Ver)} {left : Int} (hn : n ≤ 9223372036854775807) (h1 : R0 w B A n ll) (hB : B ≤ w.heap.size) (h0 : 0 ≤ left) (hl : left ≤ 1048576) :
    Calls Tryz.prog 9 #[.agg #[.slice A n c], .int .i64 left] w fun e w' => e = .returned (.int .i64 (szR left ll)) ∧ Below w.heap.size w w' := by
  have H1 := Lib.hid h1
  clear h1
  by_cases h : left < tot ll
  · have hr := szR_no h
    have HR := Lib.hid hr
    clear hr
    go_enter Tryz.func9, Tryz.ntmps9
    go_wp2_with fail
    refine (count_rows hn (H1.out.below (below_le (new1 _ _) hB)) (by simp; omega) h0 hl).mono ?_
    rintro e W ⟨rfl, rfl⟩
    rw [HR.out]
    go_wp2_with fail
    go_ret
    exact ⟨ret_i HR.out.symm, new1 _ _⟩
  · have hr := szR_yes (left := left) (ll := ll) (by omega)
    have HR := Lib.hid hr
    clear hr
    have t : decide (left - (tot ll : Int) < 0) = false := decide_eq_false (by omega)
    go_enter Tryz.func9, Tryz.ntmps9
    go_wp2_with fail
    refine (count_rows hn (H1.out.below (below_le (new1 _ _) hB)) (by simp; omega) h0 hl).mono ?_
    rintro e W ⟨rfl, rfl⟩
    rw [HR.out]
    go_wp2_with fail
    go_ret
    exact ⟨ret_i HR.out.symm, new1 _ _⟩
/-! the copy -/
/-- block N is a row of n slices; the first k are rows of the call's own, each in a block above N and above those before it, that read as the lists of ll, the others are nil -/
def RR (w : World) (N n : Nat) (ll : List (List Ver)) (k : Nat) : Prop :=
  ∃ (f : Nat → Value) (Mf : Nat → Nat), w.rowIs N 79 n f ∧ (∀ i, k ≤ i → i < n → f i = .slice none 0 0) ∧ (∀ i j, i < j → j < k → Mf i < Mf j) ∧ ∀ i l, i < k → ll[i]? = some l → f i = .slice (some ⟨Mf i, 0, none⟩) l.length l.length ∧ N < Mf i ∧ Row w (Mf i) l.length l l.length
section
variable {w w' : World} {N n k : Nat} {ll : List (List Ver)}
theorem RR.lt (h : RR w N n ll k) : N < w.heap.size := by obtain ⟨f, Mf, hf, _⟩ := h; exact hf.lt
theorem RR.frozen (h : RR w N n ll k) (i : Nat) : w.frozen? ⟨N, i, none⟩ = false := by obtain ⟨f, Mf, hf, _⟩ := h; exact hf.frozen i
theorem RR.cell (h : RR w N n ll k) {i : Nat} (hi : i < n) : ∃ u, w.cell? ⟨N, i, none⟩ = some u := by obtain ⟨f, Mf, hf, _⟩ := h; exact ⟨_, hf.cell hi⟩
theorem RR.below (h : RR w N n ll k) (hb : Below w.heap.size w w') : RR w' N n ll k := by
  obtain ⟨f, Mf, hf, hz, hd, hr⟩ := h
  refine ⟨f, Mf, hf.of_block (hb.block N hf.lt), hz, hd, fun i l hi hl => ?_⟩
  obtain ⟨h1, h2, h3⟩ := hr i l hi hl
  exact ⟨h1, h2, h3.below hb h3.lt⟩
/-- a new row, behind all that was there in w, is the next one -/
theorem RR.set (h : RR w N n ll k) (hln : ll.length = n) (hb : Below w.heap.size w w') (hk : k < n) {l : List Ver} (hl : ll[k]? = some l) {M : Nat} (hM : w.heap.size ≤ M) (hR : Row w' M l.length l l.length) :
    RR (w'.setCell ⟨N, k, none⟩ (.slice (some ⟨M, 0, none⟩) l.length l.length)) N n ll (k + 1) := by
  have hN := h.lt
  have hlt : ∀ (f : Nat → Value) (Mf : Nat → Nat), (∀ i l, i < k → ll[i]? = some l → f i = .slice (some ⟨Mf i, 0, none⟩) l.length l.length ∧ N < Mf i ∧ Row w (Mf i) l.length l l.length) → ∀ i, i < k → Mf i < w.heap.size := fun f Mf hr i hi => by
    obtain ⟨_, _, h3⟩ := hr i ll[i] hi (List.getElem?_eq_getElem (by omega))
    exact h3.lt
  obtain ⟨f, Mf, hf, hz, hd, hr⟩ := h
  have hlt := hlt f Mf hr
  refine ⟨_, fun i => if i = k then M else Mf i, (hf.of_block (hb.block N hN)).set k _, fun i h1 h2 => ?_, fun i j hi hj => ?_, fun i l' hi hl' => ?_⟩
  · rw [if_neg (by omega)]; exact hz i (by omega) h2
  · by_cases e : j = k
    · show (if i = k then M else Mf i) < (if j = k then M else Mf j)
      rw [if_pos e, if_neg (by omega)]
      have := hlt i (by omega)
      omega
    · show (if i = k then M else Mf i) < (if j = k then M else Mf j)
      rw [if_neg e, if_neg (by omega)]
      exact hd i j hi (by omega)
  · by_cases hik : i = k
    · subst hik
      rw [hl] at hl'
      injection hl' with hl'
      subst hl'
      simp only [if_true]
      exact ⟨trivial, by omega, World.rowIs.setOther hR (by simp; omega) _⟩
    · simp only [if_neg hik]
      obtain ⟨h1, h2, h3⟩ := hr i l' (by omega) hl'
      exact ⟨h1, h2, World.rowIs.setOther (h3.below hb h3.lt) (by simp; omega) _⟩
theorem RR.low (h : RR w N n ll k) {p : Addr} (hp : p.block < N) (v : Value) : RR (w.setCell p v) N n ll k := by
  obtain ⟨f, Mf, hf, hz, hd, hr⟩ := h
  refine ⟨f, Mf, World.rowIs.setOther hf (by omega) _, hz, hd, fun i l hi hl => ?_⟩
  obtain ⟨h1, h2, h3⟩ := hr i l hi hl
  exact ⟨h1, h2, World.rowIs.setOther h3 (by omega) _⟩
theorem RR.rs (h : RR w N n ll n) (hl : ll.length = n) (hc : cnt ll ≤ 140737488355328) : Rs w w.heap.size (some ⟨N, 0, none⟩) n ll := ⟨hl, fun hn => by
  obtain ⟨f, Mf, hf, hz, hd, hr⟩ := h
  refine ⟨N, 0, rfl, hf.lt, fun k l hx => ?_⟩
  have hk := lt_get hx
  obtain ⟨h1, h2, h3⟩ := hr k l (by omega) hx
  have := len_le hx
  refine ⟨some ⟨Mf k, 0, none⟩, l.length, l.length, ?_, by omega, (h3.vs rfl).more h3.lt⟩
  rw [show (0 : Nat) + k = k by omega, hf.cell (by omega), h1]⟩
end
theorem info_row : (Tryz.prog.info? 79).map (fun i => (i.zero, i.size, i.bytes)) = some (some (.slice none 0 0), 1, 24) := by kernel_rfl
theorem make_rows (n : Nat) (hn : n ≤ 2097152) (w : World) :
    (Instr.makeSlice 32 (.int .i64 (n : Int)) (.int .i64 (n : Int))).run Tryz.prog w = .ok (.slice (some ⟨w.heap.size, 0, none⟩) n n) (w.alloc (.cells (madeCells #[.slice none 0 0] n) 79)) := by
  obtain ⟨i0, hi, hz0, hz1, hz2⟩ := info_parts info_row
  have hr := run_make (P := Tryz.prog) w 32 79 i0 _ Tryz.underlying32 hi hz0 .i64 .i64 n n (by omega) (by omega) (by rw [hz2]; omega) (by omega)
  simp only [Int.toNat_natCast, hz1, Value.cells, Nat.mul_one] at hr
  exact hr
theorem RR.made (w : World) (n : Nat) (ll : List (List Ver)) : RR (w.alloc (.cells (madeCells #[.slice none 0 0] n) 79)) w.heap.size n ll 0 :=
  ⟨_, fun _ => 0, World.rowIs_made w (.slice none 0 0) n 79, fun i _ _ => rfl, fun i j _ h => absurd h (by omega), fun i l h => absurd h (by omega)⟩
set_option maxRecDepth 100000 in
set_option maxHeartbeats 800000 in
theorem copy_rows {w : World} {B n c : Nat} {A : Option Addr} {ll : List (List Ver)} (hn : n ≤ 2097152) (hc : cnt ll ≤ 2097152) (h1 : Rs w B A n ll) (hB : B ≤ w.heap.size) :
    Calls Tryz.prog 41 #[.slice A n c] w fun e w' => ∃ N, e = .returned (.slice (some ⟨N, 0, none⟩) n n) ∧ w.heap.size ≤ N ∧ N < w'.heap.size ∧ RR w' N n ll n ∧ Below w.heap.size w w' := by
  have H1 := Lib.hid h1
  have hln := h1.1
  have hmk := make_rows n hn
  clear h1
  go_enter Tryz.func41, Tryz.ntmps41
  go_wp2
  obtain ⟨N, hN⟩ : ∃ N, N = w.heap.size := ⟨_, rfl⟩
  have hR0 := RR.made w n ll
  have hb0 := new1 w (.cells (madeCells #[.slice none 0 0] n) 79)
  rw [← hN] at hR0
  simp only [← hN]
  generalize w.alloc (.cells (madeCells #[.slice none 0 0] n) 79) = w0 at hR0 hb0 ⊢
  have hN2 : w.heap.size ≤ N := by omega
  clear hN hmk
  go_loopw [4] (fun i wr => ∃ k : Nat, k ≤ n ∧ i = .int .i64 k ∧ RR wr N n ll k ∧ Below w.heap.size w wr) (fun i _ => n - (intOf i).toNat)
  case atStart => exact ⟨0, by omega, rfl, hR0, hb0⟩
  case round =>
    obtain ⟨k, hk, rfl, hR, hb⟩ := hrel
    have hNl := hR.lt
    by_cases hlt : k < n
    · obtain ⟨b, o, l, A', n', c', rfl, hbB, hx, hcell, hn', hv⟩ := (H1.out.below (below_le hb hB)).at_ hlt
      have HB := Lib.hid hb
      have HR := Lib.hid hR
      have HX := Lib.hid hx
      have HV := Lib.hid hv
      have hl1 := hv.1
      have hl2 := len_le hx
      have hsz := hb.size
      clear hb hx hR hR0 hb0 hv
      go_wp2_with fail
      refine (copy_versions (by omega) HV.out (by omega)).mono ?_
      rintro e W1 ⟨M, rfl, hM, hMl, hRow, hb1⟩
      subst hl1
      have hR1 := HR.out.below hb1
      obtain ⟨u0, c0⟩ := hR1.cell (i := k) hlt
      have f0 := hR1.frozen k
      have HR1 := Lib.hid hR1
      have HB1 := Lib.hid hb1
      have HRow := Lib.hid hRow
      clear hR1 hb1 hRow
      go_wp2_with fail
      go_roundw
      case rel => exact ⟨k + 1, by omega, by go_num, HR.out.set hln HB1.out hlt HX.out hM HRow.out, (HB.out.trans (HB1.out.mono HB.out.size)).setCell hN2 _⟩
      case measure => simp [intOf]; omega
    · obtain rfl : k = n := by omega
      have HB := Lib.hid hb
      have HR := Lib.hid hR
      clear hb hR hR0 hb0
      go_wp2
      go_ret
      exact ⟨N, rfl, hN2, hNl, HR.out, HB.out⟩
/-- the copy, as a law takes it: a store of its own, its rows each in a block of its own -/
def StoredR (n : Nat) (ll : List (List Ver)) (w : World) (e : Ending) (w' : World) : Prop := ∃ N, e = .returned (.agg #[.slice (some ⟨N, 0, none⟩) n n]) ∧ w.heap.size ≤ N ∧ RR w' N n ll n ∧ Below w.heap.size w w'
/-- a store of its own that reads as the same list of lists -/
def Stored (n : Nat) (ll : List (List Ver)) (w : World) (e : Ending) (w' : World) : Prop := ∃ N, e = .returned (.agg #[.slice (some ⟨N, 0, none⟩) n n]) ∧ w.heap.size ≤ N ∧ Rs w' w'.heap.size (some ⟨N, 0, none⟩) n ll ∧ Below w.heap.size w w'
/-- a new one-cell block -/
theorem one_cell (w : World) (v : Value) (t : TypeId) : (w.alloc (.cells #[v] t)).cell? ⟨w.heap.size, 0, none⟩ = some v := World.cell?_alloc_mark w _ t _ 0
theorem one_free (w : World) (v : Value) (t : TypeId) : (w.alloc (.cells #[v] t)).frozen? ⟨w.heap.size, 0, none⟩ = false := World.frozen?_alloc_new _ _ _ _
theorem up {w : World} (o : Obj) {p : Addr} {v : Value} (h : w.cell? p = some v) (hp : p.block < w.heap.size) : (w.alloc o).cell? p = some v := (World.cell?_alloc_lt w o p hp).trans h
theorem free_up {w : World} (o : Obj) {p : Addr} {x : Bool} (h : w.frozen? p = x) (hp : p.block < w.heap.size) : (w.alloc o).frozen? p = x := ((new1 w o).frozen hp).trans h
theorem set_same {w : World} {v u : Value} {a : Addr} (h : w.cell? a = some u) : (w.setCell a v).cell? a = some v := by
  apply World.cell?_setCell_same
  exact h
theorem set_other {w : World} {v u : Value} {a b : Addr} (h : w.cell? b = some u) (hn : a.block ≠ b.block) : (w.setCell a v).cell? b = some u := by
  rw [World.cell?_setCell_other w a b v (fun e => hn (by rw [e]))]; exact h
theorem set_free {w : World} {v : Value} {a b : Addr} {x : Bool} (h : w.frozen? b = x) : (w.setCell a v).frozen? b = x := (World.frozen?_setCell _ _ _ _).trans h
set_option maxRecDepth 100000 in
set_option maxHeartbeats 800000 in
theorem copy_storeR {w : World} {B n c : Nat} {A : Option Addr} {ll : List (List Ver)} (hn : n ≤ 2097152) (hc : cnt ll ≤ 2097152) (h1 : Rs w B A n ll) (hB : B ≤ w.heap.size) :
    Calls Tryz.prog 21 #[.agg #[.slice A n c]] w (StoredR n ll w) := by
  have H1 := Lib.hid h1
  have hln := h1.1
  clear h1
  go_enter Tryz.func21, Tryz.ntmps21
  go_wp2_with fail
  have z0 : ((((w.alloc (.cells #[.slice A n c] 24)).alloc (.cells #[.slice none 0 0] 34)).alloc (.cells #[.slice none 0 0] 34)).cell? ⟨w.heap.size + 1, 0, none⟩) = some (.slice none 0 0) := up _ (by have h := one_cell (w.alloc (.cells #[.slice A n c] 24)) (.slice none 0 0) 34; rw [show (w.alloc (.cells #[.slice A n c] 24)).heap.size = w.heap.size + 1 by simp] at h; exact h) (by simp)
  have z1 : ((((w.alloc (.cells #[.slice A n c] 24)).alloc (.cells #[.slice none 0 0] 34)).alloc (.cells #[.slice none 0 0] 34)).cell? ⟨w.heap.size + 1 + 1, 0, none⟩) = some (.slice none 0 0) := by have h := one_cell ((w.alloc (.cells #[.slice A n c] 24)).alloc (.cells #[.slice none 0 0] 34)) (.slice none 0 0) 34; rw [show ((w.alloc (.cells #[.slice A n c] 24)).alloc (.cells #[.slice none 0 0] 34)).heap.size = w.heap.size + 1 + 1 by simp] at h; exact h
  have f0 : ((((w.alloc (.cells #[.slice A n c] 24)).alloc (.cells #[.slice none 0 0] 34)).alloc (.cells #[.slice none 0 0] 34)).frozen? ⟨w.heap.size + 1, 0, none⟩) = false := free_up _ (by have h := one_free (w.alloc (.cells #[.slice A n c] 24)) (.slice none 0 0) 34; rw [show (w.alloc (.cells #[.slice A n c] 24)).heap.size = w.heap.size + 1 by simp] at h; exact h) (by simp)
  have f1 : ((((w.alloc (.cells #[.slice A n c] 24)).alloc (.cells #[.slice none 0 0] 34)).alloc (.cells #[.slice none 0 0] 34)).frozen? ⟨w.heap.size + 1 + 1, 0, none⟩) = false := by have h := one_free ((w.alloc (.cells #[.slice A n c] 24)).alloc (.cells #[.slice none 0 0] 34)) (.slice none 0 0) 34; rw [show ((w.alloc (.cells #[.slice A n c] 24)).alloc (.cells #[.slice none 0 0] 34)).heap.size = w.heap.size + 1 + 1 by simp] at h; exact h
  have hb := new3 w (.cells #[.slice A n c] 24) (.cells #[.slice none 0 0] 34) (.cells #[.slice none 0 0] 34)
  have hs : w.heap.size + 3 = ((((w.alloc (.cells #[.slice A n c] 24)).alloc (.cells #[.slice none 0 0] 34)).alloc (.cells #[.slice none 0 0] 34))).heap.size := by simp
  generalize ((w.alloc _).alloc _).alloc _ = W0 at z0 z1 f0 f1 hb hs ⊢
  have HB := Lib.hid hb
  have h1 := H1.out.below (below_le hb (by omega))
  clear hb
  refine (copy_rows hn hc h1 (by omega)).mono ?_
  rintro e W1 ⟨M, rfl, hM, hMl, hR, hb1⟩
  have c0 := (hb1.cell (p := ⟨w.heap.size + 1, 0, none⟩) (by simp; omega)).trans z0
  have c1 := (hb1.cell (p := ⟨w.heap.size + 1 + 1, 0, none⟩) (by simp; omega)).trans z1
  have g0 := (hb1.frozen (p := ⟨w.heap.size + 1, 0, none⟩) (by simp; omega)).trans f0
  have g1 := (hb1.frozen (p := ⟨w.heap.size + 1 + 1, 0, none⟩) (by simp; omega)).trans f1
  have HB1 := Lib.hid (HB.out.trans (hb1.mono (by have := HB.out.size; omega)))
  have HR := Lib.hid hR
  clear z0 z1 f0 f1 hb1 hR h1
  go_wp2_with fail
  have e1 := set_same (v := .slice (some ⟨M, 0, none⟩) n n) (set_other (a := ⟨w.heap.size + 1 + 1, 0, none⟩) (v := .slice (some ⟨M, 0, none⟩) n n) c0 (by simp))
  have hR := (HR.out.low (p := ⟨w.heap.size + 1 + 1, 0, none⟩) (by simp; omega) (.slice (some ⟨M, 0, none⟩) n n)).low (p := ⟨w.heap.size + 1, 0, none⟩) (by simp; omega) (.slice (some ⟨M, 0, none⟩) n n)
  have hbf := (HB1.out.setCell (p := ⟨w.heap.size + 1 + 1, 0, none⟩) (by simp; omega) (.slice (some ⟨M, 0, none⟩) n n)).setCell (p := ⟨w.heap.size + 1, 0, none⟩) (by simp) (.slice (some ⟨M, 0, none⟩) n n)
  generalize ((W1.setCell _ _).setCell _ _) = Wf at e1 hR hbf ⊢
  exact bodyPost_ret (v := .agg #[.slice (some ⟨M, 0, none⟩) n n]) (by simp [results, Tryz.results21, go_sem, e1]) rfl ⟨M, rfl, by omega, hR, hbf⟩
theorem copy_store {w : World} {B n c : Nat} {A : Option Addr} {ll : List (List Ver)} (hn : n ≤ 2097152) (hc : cnt ll ≤ 2097152) (h1 : Rs w B A n ll) (hB : B ≤ w.heap.size) :
    Calls Tryz.prog 21 #[.agg #[.slice A n c]] w (Stored n ll w) :=
  (copy_storeR hn hc h1 hB).mono fun e w' ⟨N, he, h2, hR, hb⟩ => ⟨N, he, h2, hR.rs h1.1 (by omega), hb⟩
/-! the comparison -/
set_option maxRecDepth 100000 in
set_option maxHeartbeats 800000 in
theorem same_rows {w : World} {B n c c2 : Nat} {A A2 : Option Addr} {ll : List (List Ver)} (hn : n ≤ 140737488355328) (h1 : Rs w B A n ll) (h2 : Rs w B A2 n ll) (hB : B ≤ w.heap.size) :
    Calls Tryz.prog 55 #[.slice A n c, .slice A2 n c2] w fun e w' => e = .returned (.bool true) ∧ Below w.heap.size w w' := by
  have H1 := Lib.hid h1
  have H2 := Lib.hid h2
  clear h1 h2
  go_enter Tryz.func55, Tryz.ntmps55
  go_wp2
  go_loopw [5] (fun i wr => ∃ k : Nat, k ≤ n ∧ i = .int .i64 k ∧ Below w.heap.size w wr) (fun i _ => n - (intOf i).toNat)
  case atStart => exact ⟨0, by omega, rfl, Below.refl _ _⟩
  case round =>
    obtain ⟨k, hk, rfl, hb⟩ := hrel
    by_cases hlt : k < n
    · obtain ⟨b, o, l, A', n', c', rfl, hbB, hx, hc, hn', hv⟩ := (H1.out.below (below_le hb hB)).at_ hlt
      obtain ⟨b', o', l', A'', n'', c'', rfl, hbB', hx', hc', hn'', hv'⟩ := (H2.out.below (below_le hb hB)).at_ hlt
      obtain rfl : l = l' := by rw [hx] at hx'; exact Option.some.inj hx'
      obtain rfl : n' = n'' := by rw [← hv.1, ← hv'.1]
      have HB := Lib.hid hb
      have hbs := hb.size
      have HV := Lib.hid hv
      have HV' := Lib.hid hv'
      clear hb hx hx' hv hv'
      go_wp2_with fail
      go_still_tail 8, (by kernel_rfl)
      change wpList _ _ _ _ _ wr.drew
      go_wp2_with fail
      refine (same_versions (w := wr.drew) (B := B) hn' HV.out HV'.out (by simp; omega)).mono ?_
      rintro e W1 ⟨rfl, hb1⟩
      have HB1 := Lib.hid hb1
      clear hb1
      go_wp2_with fail
      go_roundw
      case rel => exact ⟨k + 1, by omega, by go_num, HB.out.drew.trans (HB1.out.mono HB.out.size)⟩
      case measure => simp [intOf]; omega
    · go_wp2
      go_ret
      exact ⟨rfl, hb⟩
theorem same_store {w : World} {B n c c2 : Nat} {A A2 : Option Addr} {ll : List (List Ver)} (hn : n ≤ 140737488355328) (h1 : Rs w B A n ll) (h2 : Rs w B A2 n ll) (hB : B ≤ w.heap.size) :
    Calls Tryz.prog 31 #[.agg #[.slice A n c], .agg #[.slice A2 n c2]] w fun e w' => e = .returned (.bool true) ∧ Below w.heap.size w w' := by
  have H1 := Lib.hid h1
  have H2 := Lib.hid h2
  clear h1 h2
  go_enter Tryz.func31, Tryz.ntmps31
  go_wp2_with fail
  have hb0 := new2 w (.cells #[.slice A n c] 34) (.cells #[.slice A2 n c2] 34)
  generalize (w.alloc _).alloc _ = W0 at hb0 ⊢
  have HB0 := Lib.hid hb0
  have hs := hb0.size
  have h1 := Lib.hid (H1.out.below (below_le hb0 hB))
  have h2 := Lib.hid (H2.out.below (below_le hb0 hB))
  clear hb0
  refine (same_rows hn h1.out h2.out (by omega)).mono ?_
  rintro e W1 ⟨rfl, hb1⟩
  have HB1 := Lib.hid (HB0.out.trans (hb1.mono (by omega)))
  clear hb1
  go_wp2_with fail
  go_ret
  exact ⟨rfl, HB1.out⟩
/-! a key -/
theorem is_key (x : Int) (w : World) :
    Calls Tryz.prog 50 #[.int .i64 x] w fun e w' => e = .returned (.bool (In 0 5 x)) ∧ w = w' := by
  go_enter Tryz.func50, Tryz.ntmps50
  by_cases h : 0 ≤ x
  · have d : decide (0 ≤ x) = true := decide_eq_true h
    by_cases h2 : x < 6
    · have d2 : decide (x ≤ 5) = true := decide_eq_true (by omega)
      go_wp2
      go_ret
      simp [In, d, d2, h2]
    · have d2 : decide (x ≤ 5) = false := decide_eq_false (by omega)
      go_wp2
      go_ret
      simp [In, d, d2, h2]
  · have d : decide (0 ≤ x) = false := decide_eq_false h
    go_wp2
    go_ret
    simp [In, d]
end Go.Proofs.YtjnlbhmddhpmaaaGreat.st
