/- A slice of transactions read as a list; the law's own helpers over it: how much they count, the copy, the comparison. Nothing that was there is written. -/
import Derived.Test.YtjnlbhmddhpmaaaGreatTr
import Derived.Test.YtjnlbhmddhpmaaaGreatTm
import Derived.WalkKit
import Derived.ProofKit
import Derived.Below
import Derived.Lib.Hide
import Derived.LoopTactic
import Derived.Deep.QuietTactic
import Derived.BigQuiet
import Derived.StillTailTactics
import Derived.Outline
import Derived.IntWalk
import Derived.Deep.OwnRows
import Derived.Laws.MakeOwn
import Derived.Laws.Entries
namespace Go.Proofs.YtjnlbhmddhpmaaaGreat.ts
open Go.ChangeShapes Go.WideShapes Go.ChangeAt Go.RowKit
open Go.Proofs.YtjnlbhmddhpmaaaGreat.el2 Go.Proofs.YtjnlbhmddhpmaaaGreat.fr Go.Proofs.YtjnlbhmddhpmaaaGreat.ow2 Go.Proofs.YtjnlbhmddhpmaaaGreat.tx Go.Proofs.YtjnlbhmddhpmaaaGreat.tm
open Go.Proofs.YtjnlbhmddhpmaaaGreat.mkr (Tr)
open Go.Proofs.YtjnlbhmddhpmaaaGreat.vers (new2 new3)
set_option linter.unusedVariables false
set_option linter.unusedSimpArgs false
set_option linter.constructorNameAsVariable false
/-- the nine cells from o on in block b -/
def T9 (w : World) (b o : Nat) (x : Hd) (u v : Value) : Prop := w.cell? ⟨b, o, none⟩ = some (.int .i64 x.i) ∧ w.cell? ⟨b, o + 1, none⟩ = some (.int .i64 x.s) ∧ w.cell? ⟨b, o + 2, none⟩ = some (.int .i64 x.t) ∧ w.cell? ⟨b, o + 3, none⟩ = some (.int .i64 x.b) ∧ w.cell? ⟨b, o + 4, none⟩ = some (.int .i64 x.l) ∧ w.cell? ⟨b, o + 5, none⟩ = some (.int .i64 x.h) ∧ w.cell? ⟨b, o + 6, none⟩ = some (.int .i64 x.c) ∧ w.cell? ⟨b, o + 7, none⟩ = some (u) ∧ w.cell? ⟨b, o + 8, none⟩ = some (v)
/-- they hold a transaction; its slices have at most M elements -/
def TC (M : Nat) (w : World) (B b o : Nat) (t : Tr) : Prop := ∃ (A : Option Addr) (n c : Nat) (A2 : Option Addr) (n2 c2 : Nat), T9 w b o t.x (.slice A n c) (.slice A2 n2 c2) ∧ n ≤ M ∧ n2 ≤ M ∧ Vs w B A n t.R ∧ Vs w B A2 n2 t.S
/-- the slice value '.slice A n c' reads as the list L, in memory below B -/
def Ts (M : Nat) (w : World) (B : Nat) (A : Option Addr) (n : Nat) (L : List Tr) : Prop :=
  L.length = n ∧ (0 < n → ∃ b o, A = some ⟨b, o, none⟩ ∧ b < B ∧ ∀ k t, L[k]? = some t → TC M w B b (o + k * 9) t)
section
variable {w w' : World} {B B' n M M' b o : Nat} {A : Option Addr} {L : List Tr} {t : Tr} {x : Hd} {u v : Value}
theorem T9.of_block (h : T9 w b o x u v) (hk : w'.heap[b]? = w.heap[b]?) : T9 w' b o x u v := by
  obtain ⟨h0, h1, h2, h3, h4, h5, h6, h7, h8⟩ := h
  exact ⟨(World.cell?_of_block (w := w) (a := ⟨b, o, none⟩) hk).trans h0, (World.cell?_of_block (w := w) (a := ⟨b, o + 1, none⟩) hk).trans h1, (World.cell?_of_block (w := w) (a := ⟨b, o + 2, none⟩) hk).trans h2, (World.cell?_of_block (w := w) (a := ⟨b, o + 3, none⟩) hk).trans h3, (World.cell?_of_block (w := w) (a := ⟨b, o + 4, none⟩) hk).trans h4, (World.cell?_of_block (w := w) (a := ⟨b, o + 5, none⟩) hk).trans h5, (World.cell?_of_block (w := w) (a := ⟨b, o + 6, none⟩) hk).trans h6, (World.cell?_of_block (w := w) (a := ⟨b, o + 7, none⟩) hk).trans h7, (World.cell?_of_block (w := w) (a := ⟨b, o + 8, none⟩) hk).trans h8⟩
theorem TC.below (h : TC M w B b o t) (hb : b < B) (hk : Below B w w') : TC M w' B b o t := by
  obtain ⟨A, n, c, A2, n2, c2, h9, h1, h2, h3, h4⟩ := h
  exact ⟨A, n, c, A2, n2, c2, h9.of_block (hk.block b hb), h1, h2, h3.below hk, h4.below hk⟩
theorem TC.more (h : TC M w B b o t) (hB : B ≤ B') : TC M w B' b o t := by
  obtain ⟨A, n, c, A2, n2, c2, h9, h1, h2, h3, h4⟩ := h
  exact ⟨A, n, c, A2, n2, c2, h9, h1, h2, h3.more hB, h4.more hB⟩
theorem Ts.nil_ (M : Nat) (w : World) (B : Nat) (A : Option Addr) : Ts M w B A 0 [] := ⟨rfl, fun h => absurd h (by omega)⟩
theorem Ts.below (h : Ts M w B A n L) (hk : Below B w w') : Ts M w' B A n L := ⟨h.1, fun hn => by
  obtain ⟨b, o, e, hb, hc⟩ := h.2 hn
  exact ⟨b, o, e, hb, fun k x hx => (hc k x hx).below hb hk⟩⟩
theorem Ts.more (h : Ts M w B A n L) (hB : B ≤ B') : Ts M w B' A n L := ⟨h.1, fun hn => by
  obtain ⟨b, o, e, hb, hc⟩ := h.2 hn
  exact ⟨b, o, e, by omega, fun k x hx => (hc k x hx).more hB⟩⟩
theorem Ts.at_ (h : Ts M w B A n L) {k : Nat} (hk : k < n) : ∃ (b o : Nat) (t : Tr) (A1 : Option Addr) (n1 c1 : Nat) (A2 : Option Addr) (n2 c2 : Nat), A = some ⟨b, o, none⟩ ∧ b < B ∧ L[k]? = some t ∧ T9 w b (o + k * 9) t.x (.slice A1 n1 c1) (.slice A2 n2 c2) ∧ n1 ≤ M ∧ n2 ≤ M ∧ Vs w B A1 n1 t.R ∧ Vs w B A2 n2 t.S := by
  obtain ⟨b, o, e, hb, hc⟩ := h.2 (by omega)
  have hl : k < L.length := by have := h.1; omega
  obtain ⟨A1, n1, c1, A2, n2, c2, h9, h1, h2, h3, h4⟩ := hc k _ (List.getElem?_eq_getElem hl)
  exact ⟨b, o, L[k], A1, n1, c1, A2, n2, c2, e, hb, List.getElem?_eq_getElem hl, h9, h1, h2, h3, h4⟩
end
/-! how much is counted -/
theorem lt_get {α : Type} {l : List α} {k : Nat} {x : α} (h : l[k]? = some x) : k < l.length := by
  rcases Nat.lt_or_ge k l.length with h' | h'
  · exact h'
  · rw [List.getElem?_eq_none h'] at h; cases h
def cntT (L : List Tr) : Nat := (L.map fun t => t.R.length + t.S.length).sum
def totT (L : List Tr) : Nat := L.length + cntT L
theorem cnt_take {L : List Tr} {k : Nat} {t : Tr} (h : L[k]? = some t) : cntT (L.take (k + 1)) = cntT (L.take k) + (t.R.length + t.S.length) := by
  have hk := lt_get h
  rw [List.getElem?_eq_getElem hk] at h
  unfold cntT
  rw [List.take_succ_eq_append_getElem hk, List.map_append, List.sum_append, Option.some.inj h]
  simp
theorem cnt_le (L : List Tr) (k : Nat) : cntT (L.take k) ≤ cntT L := by
  have : cntT L = cntT (L.take k) + cntT (L.drop k) := by
    unfold cntT
    rw [← List.sum_append, ← List.map_append, List.take_append_drop]
  omega
theorem cnt_all {L : List Tr} {n : Nat} (h : L.length = n) : cntT (L.take n) = cntT L := by rw [List.take_of_length_le (by omega)]
theorem len_le {L : List Tr} {k : Nat} {t : Tr} (h : L[k]? = some t) : t.R.length + t.S.length ≤ cntT L := by
  have := cnt_take h
  have := cnt_le L (k + 1)
  omega
theorem tot_eq (L : List Tr) : totT L = L.length + cntT L := rfl
def szL (left : Int) (L : List Tr) : Int := if left < totT L then -1 else left - totT L
theorem szL_no {left : Int} {L : List Tr} (h : left < totT L) : szL left L = -1 := if_pos h
theorem szL_yes {left : Int} {L : List Tr} (h : (totT L : Int) ≤ left) : szL left L = left - totT L := if_neg (by omega)
theorem Ts.tight {w : World} {B n M M' : Nat} {A : Option Addr} {L : List Tr} (h : Ts M w B A n L) (hc : cntT L ≤ M') : Ts M' w B A n L := ⟨h.1, fun hn => by
  obtain ⟨b, o, e, hb, hx⟩ := h.2 hn
  refine ⟨b, o, e, hb, fun k t hl => ?_⟩
  obtain ⟨A1, n1, c1, A2, n2, c2, h9, h1, h2, h3, h4⟩ := hx k t hl
  have := len_le hl
  have := h3.1
  have := h4.1
  exact ⟨A1, n1, c1, A2, n2, c2, h9, by omega, by omega, h3, h4⟩⟩
set_option maxRecDepth 100000 in
set_option maxHeartbeats 1600000 in
theorem count_txs {w : World} {B n c : Nat} {A : Option Addr} {L : List Tr} {left : Int} (hn : n ≤ 9223372036854775807) (h1 : Ts 9223372036854775807 w B A n L) (hB : B ≤ w.heap.size) (h0 : 0 ≤ left) (hl : left ≤ 1048576) :
    Calls Tryz.prog 10 #[.slice A n c, .int .i64 left] w fun e w' => e = .returned (.int .i64 (szL left L)) ∧ Below w.heap.size w w' := by
  have H1 := Lib.hid h1
  have hlen := h1.1
  have hT := tot_eq L
  clear h1
  by_cases h : left < n
  · have t : decide (left - (n : Int) < 0) = true := decide_eq_true (by omega)
    have HR : Hid (szL left L = -1) := Lib.hid (szL_no (by omega))
    clear hT
    go_enter Tryz.func10, Tryz.ntmps10
    go_wp2
    go_ret
    exact ⟨ret_i HR.out.symm, Below.refl _ _⟩
  · have t : decide (left - (n : Int) < 0) = false := decide_eq_false (by omega)
    go_enter Tryz.func10, Tryz.ntmps10
    go_wp2
    go_loopw [1, 5] (fun x i wr => ∃ k : Nat, k ≤ n ∧ i = .int .i64 k ∧ x = .int .i64 (left - n - cntT (L.take k)) ∧ (0 : Int) ≤ left - n - cntT (L.take k) ∧ Below w.heap.size w wr) (fun _ i _ => n - (intOf i).toNat)
    case atStart => exact ⟨0, by omega, rfl, by simp [cntT], by simp [cntT]; omega, Below.refl _ _⟩
    case round =>
      obtain ⟨k, hk, rfl, rfl, hle, hb⟩ := hrel
      have HB := Lib.hid hb
      by_cases hlt : k < n
      · obtain ⟨b, o, t9, A1, n1, c1, A2, n2, c2, rfl, hbB, hx, ⟨a0, a1, a2, a3, a4, a5, a6, a7, a8⟩, hn1, hn2, hv1, hv2⟩ := (H1.out.below (below_le hb hB)).at_ hlt
        have hs := cnt_take hx
        have hm := cnt_le L (k + 1)
        have l1 := hv1.1
        have l2 := hv2.1
        clear hx hv1 hv2 hb
        generalize hy : left - (n : Int) - (cntT (L.take k) : Int) = y at hle ⊢
        have y1 : y ≤ 1048576 := by omega
        by_cases hlb : y < n1 + n2
        · have HZ : Hid (szT y n1 n2 = -1) := Lib.hid (szT_no hlb)
          have HR : Hid (szL left L = -1) := Lib.hid (szL_no (by omega))
          clear hs hm l1 l2 hy hT hlb
          go_wp2_with fail
          refine (count_tx t9.x A1 n1 c1 A2 n2 c2 y _ (by omega) (by omega) hle y1).mono ?_
          rintro e W ⟨rfl, hb1⟩
          rw [HZ.out]
          have HB1 := Lib.hid (HB.out.trans (hb1.mono HB.out.size))
          clear hb1 a0 a1 a2 a3 a4 a5 a6 a7 a8
          go_wp2_with fail
          go_ret
          exact ⟨ret_i HR.out.symm, HB1.out⟩
        · obtain ⟨z, hz⟩ : ∃ z, y - (n1 : Int) - (n2 : Int) = z := ⟨_, rfl⟩
          have HZ : Hid (szT y n1 n2 = z) := Lib.hid (by rw [szT_yes (by omega)]; exact hz)
          have z0 : 0 ≤ z := by omega
          have t2 : decide (z < 0) = false := decide_eq_false (by omega)
          have HQ : Hid (z = left - (n : Int) - (cntT (L.take (k + 1)) : Int)) := Lib.hid (by omega)
          clear hs hm l1 l2 hy hT hlb hz
          go_wp2_with fail
          refine (count_tx t9.x A1 n1 c1 A2 n2 c2 y _ (by omega) (by omega) hle y1).mono ?_
          rintro e W ⟨rfl, hb1⟩
          rw [HZ.out]
          have HB1 := Lib.hid (HB.out.trans (hb1.mono HB.out.size))
          clear hb1 a0 a1 a2 a3 a4 a5 a6 a7 a8
          go_wp2_with fail
          go_roundw
          case rel => exact ⟨k + 1, by omega, by go_num, congrArg (Value.int .i64) HQ.out, by rw [← HQ.out]; exact z0, HB1.out⟩
          case measure => simp [intOf]; omega
      · obtain rfl : k = n := by omega
        have ha := cnt_all hlen
        rw [ha] at hle ⊢
        have hr : left - (k : Int) - (cntT L : Int) = szL left L := by rw [szL_yes (by omega)]; omega
        have HR := Lib.hid hr
        clear hr hb
        go_wp2_with fail
        go_ret
        exact ⟨ret_i HR.out, HB.out⟩
/-! the copy -/
/-- block N is a row of n transactions; the first k are those of L, their slices rows of the call's own in blocks lo i <= g < lo (i + 1), the others are zero -/
def RT (w : World) (N n : Nat) (L : List Tr) (k : Nat) : Prop :=
  ∃ (f : Nat → Value) (lo : Nat → Nat), w.rowIs N 55 (n * 9) f ∧ (∀ i, k * 9 ≤ i → i < n * 9 → f i = zf (i % 9)) ∧ N < lo 0 ∧ (∀ i, i < k → lo i ≤ lo (i + 1)) ∧ lo k ≤ w.heap.size ∧
    ∀ i t, i < k → L[i]? = some t → ∃ g g2, (∀ j, j < 9 → f (i * 9 + j) = xf t.x (.slice (some ⟨g, 0, none⟩) t.R.length t.R.length) (.slice (some ⟨g2, 0, none⟩) t.S.length t.S.length) j) ∧ OwT w (lo i) (lo (i + 1)) (some ⟨g, 0, none⟩) t.R.length t.R (some ⟨g2, 0, none⟩) t.S.length t.S
section
variable {w w' : World} {N n k : Nat} {L : List Tr}
theorem RT.lt (h : RT w N n L k) : N < w.heap.size := by obtain ⟨f, lo, hf, _⟩ := h; exact hf.lt
theorem RT.frozen (h : RT w N n L k) (i : Nat) : w.frozen? ⟨N, i, none⟩ = false := by obtain ⟨f, lo, hf, _⟩ := h; exact hf.frozen i
theorem RT.zero (h : RT w N n L k) (hk : k < n) {j : Nat} (hj : j < 9) : w.cell? ⟨N, k * 9 + j, none⟩ = some (zf j) := by
  obtain ⟨f, lo, hf, hz, _⟩ := h
  rw [hf.cell (show k * 9 + j < n * 9 by omega), hz _ (by omega) (by omega), show (k * 9 + j) % 9 = j by omega]
theorem RT.below (h : RT w N n L k) (hln : L.length = n) (hk : k ≤ n) (hb : Below w.heap.size w w') : RT w' N n L k := by
  obtain ⟨f, lo, hf, hz, h0, hm, hs, hr⟩ := h
  refine ⟨f, lo, hf.of_block (hb.block N hf.lt), hz, h0, hm, Nat.le_trans hs hb.size, fun i t hi hl => ?_⟩
  obtain ⟨g, g2, h1, h2⟩ := hr i t hi hl
  have hmono : ∀ j, j ≤ k → ∀ d, d ≤ k - j → lo j ≤ lo (j + d) := fun j hj d => by
    induction d with
    | zero => intro _; exact Nat.le_refl _
    | succ d ih => intro hd; exact Nat.le_trans (ih (by omega)) (hm (j + d) (by omega))
  have hle : lo (i + 1) ≤ lo k := by have := hmono (i + 1) (by omega) (k - (i + 1)) (Nat.le_refl _); rwa [show i + 1 + (k - (i + 1)) = k by omega] at this
  exact ⟨g, g2, h1, h2.fr (FR.of_below (lo := w.heap.size) (hi := w.heap.size) hb) (.inl (Nat.le_trans hle hs)) (Nat.le_trans hle hs)⟩
theorem put9_off (V : World) (N k : Nat) (x : Hd) (u v : Value) : Off N V (World.setCell (World.setCell (World.setCell (World.setCell (World.setCell (World.setCell (World.setCell (World.setCell (World.setCell V ⟨N, k * 9, none⟩ (.int .i64 x.i)) ⟨N, k * 9 + 1, none⟩ (.int .i64 x.s)) ⟨N, k * 9 + 2, none⟩ (.int .i64 x.t)) ⟨N, k * 9 + 3, none⟩ (.int .i64 x.b)) ⟨N, k * 9 + 4, none⟩ (.int .i64 x.l)) ⟨N, k * 9 + 5, none⟩ (.int .i64 x.h)) ⟨N, k * 9 + 6, none⟩ (.int .i64 x.c)) ⟨N, k * 9 + 7, none⟩ (u)) ⟨N, k * 9 + 8, none⟩ (v)) :=
  (((((((((Off.refl N V).setCell (p := ⟨N, k * 9, none⟩) rfl _).setCell (p := ⟨N, k * 9 + 1, none⟩) rfl _).setCell (p := ⟨N, k * 9 + 2, none⟩) rfl _).setCell (p := ⟨N, k * 9 + 3, none⟩) rfl _).setCell (p := ⟨N, k * 9 + 4, none⟩) rfl _).setCell (p := ⟨N, k * 9 + 5, none⟩) rfl _).setCell (p := ⟨N, k * 9 + 6, none⟩) rfl _).setCell (p := ⟨N, k * 9 + 7, none⟩) rfl _).setCell (p := ⟨N, k * 9 + 8, none⟩) rfl _
theorem put9_row {V : World} {N k M : Nat} {e : TypeId} {f : Nat → Value} (h : V.rowIs N e M f) (x : Hd) (u v : Value) : World.rowIs (World.setCell (World.setCell (World.setCell (World.setCell (World.setCell (World.setCell (World.setCell (World.setCell (World.setCell V ⟨N, k * 9, none⟩ (.int .i64 x.i)) ⟨N, k * 9 + 1, none⟩ (.int .i64 x.s)) ⟨N, k * 9 + 2, none⟩ (.int .i64 x.t)) ⟨N, k * 9 + 3, none⟩ (.int .i64 x.b)) ⟨N, k * 9 + 4, none⟩ (.int .i64 x.l)) ⟨N, k * 9 + 5, none⟩ (.int .i64 x.h)) ⟨N, k * 9 + 6, none⟩ (.int .i64 x.c)) ⟨N, k * 9 + 7, none⟩ (u)) ⟨N, k * 9 + 8, none⟩ (v)) N e M (fun i => if k * 9 ≤ i ∧ i < k * 9 + 9 then xf x u v (i - k * 9) else f i) :=
  (((((((((h.set (k * 9) (.int .i64 x.i)).set (k * 9 + 1) (.int .i64 x.s)).set (k * 9 + 2) (.int .i64 x.t)).set (k * 9 + 3) (.int .i64 x.b)).set (k * 9 + 4) (.int .i64 x.l)).set (k * 9 + 5) (.int .i64 x.h)).set (k * 9 + 6) (.int .i64 x.c)).set (k * 9 + 7) (u)).set (k * 9 + 8) (v)).congr (fun i hi => by
    by_cases hq : k * 9 ≤ i ∧ i < k * 9 + 9
    · rw [if_pos hq]
      obtain ⟨d, rfl⟩ : ∃ d, i = k * 9 + d := ⟨i - k * 9, by omega⟩
      have hd : d < 9 := by omega
      rw [show k * 9 + d - k * 9 = d by omega]
      have : d = 0 ∨ d = 1 ∨ d = 2 ∨ d = 3 ∨ d = 4 ∨ d = 5 ∨ d = 6 ∨ d = 7 ∨ d = 8 := by omega
      rcases this with rfl | rfl | rfl | rfl | rfl | rfl | rfl | rfl | rfl <;> simp [xf]
    · rw [if_neg hq]
      rw [if_neg (show ¬ i = k * 9 + 8 by omega)]; rw [if_neg (show ¬ i = k * 9 + 7 by omega)]; rw [if_neg (show ¬ i = k * 9 + 6 by omega)]; rw [if_neg (show ¬ i = k * 9 + 5 by omega)]; rw [if_neg (show ¬ i = k * 9 + 4 by omega)]; rw [if_neg (show ¬ i = k * 9 + 3 by omega)]; rw [if_neg (show ¬ i = k * 9 + 2 by omega)]; rw [if_neg (show ¬ i = k * 9 + 1 by omega)]; rw [if_neg (show ¬ i = k * 9 by omega)])
theorem lo_mono {lo : Nat → Nat} {k : Nat} (hm : ∀ i, i < k → lo i ≤ lo (i + 1)) (j d : Nat) (h : j + d ≤ k) : lo j ≤ lo (j + d) := by
  induction d with
  | zero => exact Nat.le_refl _
  | succ d ih => exact Nat.le_trans (ih (by omega)) (hm (j + d) (by omega))
theorem lo_le {lo : Nat → Nat} {k : Nat} (hm : ∀ i, i < k → lo i ≤ lo (i + 1)) {i j : Nat} (h : i ≤ j) (hk : j ≤ k) : lo i ≤ lo j := by
  have := lo_mono hm i (j - i) (by omega)
  rwa [show i + (j - i) = j by omega] at this
theorem fr_off {N : Nat} {w w' : World} (h : Off N w w') : FR N (N + 1) w w' := ⟨h.os, h.tape, h.output, Nat.le_of_eq h.size.symm, fun k _ hk => h.block k (by omega)⟩
/-- a copied transaction, behind all that was there in w, is the next one -/
theorem RT.set (h : RT w N n L k) (hln : L.length = n) (hb : Below w.heap.size w w') (hk : k < n) {t : Tr} (hl : L[k]? = some t) {g g2 : Nat} (hO : OwT w' w.heap.size w'.heap.size (some ⟨g, 0, none⟩) t.R.length t.R (some ⟨g2, 0, none⟩) t.S.length t.S) {x : Hd} {u v : Value} (hx : x = t.x) (hu : u = .slice (some ⟨g, 0, none⟩) t.R.length t.R.length) (hv : v = .slice (some ⟨g2, 0, none⟩) t.S.length t.S.length) :
    RT (World.setCell (World.setCell (World.setCell (World.setCell (World.setCell (World.setCell (World.setCell (World.setCell (World.setCell w' ⟨N, k * 9, none⟩ (.int .i64 x.i)) ⟨N, k * 9 + 1, none⟩ (.int .i64 x.s)) ⟨N, k * 9 + 2, none⟩ (.int .i64 x.t)) ⟨N, k * 9 + 3, none⟩ (.int .i64 x.b)) ⟨N, k * 9 + 4, none⟩ (.int .i64 x.l)) ⟨N, k * 9 + 5, none⟩ (.int .i64 x.h)) ⟨N, k * 9 + 6, none⟩ (.int .i64 x.c)) ⟨N, k * 9 + 7, none⟩ (u)) ⟨N, k * 9 + 8, none⟩ (v)) N n L (k + 1) := by
  have hN := h.lt
  obtain ⟨f, lo, hf, hz, h0, hm, hs, hr⟩ := h
  have ho := put9_off w' N k x u v
  have hrow := put9_row (k := k) (hf.of_block (hb.block N hN)) x u v
  obtain ⟨W, hW⟩ : ∃ W, W = (World.setCell (World.setCell (World.setCell (World.setCell (World.setCell (World.setCell (World.setCell (World.setCell (World.setCell w' ⟨N, k * 9, none⟩ (.int .i64 x.i)) ⟨N, k * 9 + 1, none⟩ (.int .i64 x.s)) ⟨N, k * 9 + 2, none⟩ (.int .i64 x.t)) ⟨N, k * 9 + 3, none⟩ (.int .i64 x.b)) ⟨N, k * 9 + 4, none⟩ (.int .i64 x.l)) ⟨N, k * 9 + 5, none⟩ (.int .i64 x.h)) ⟨N, k * 9 + 6, none⟩ (.int .i64 x.c)) ⟨N, k * 9 + 7, none⟩ (u)) ⟨N, k * 9 + 8, none⟩ (v)) := ⟨_, rfl⟩
  rw [← hW] at ho hrow ⊢
  clear hW
  have hF := fr_off ho
  subst hx hu hv
  refine ⟨_, fun i => if i ≤ k then lo i else w'.heap.size, hrow, fun i h1 h2 => ?_, ?_, fun i hi => ?_, ?_, fun i t' hi hl' => ?_⟩
  · show (if _ then _ else _) = _
    rw [if_neg (by omega)]
    exact hz i (by omega) h2
  · show N < (if 0 ≤ k then lo 0 else _)
    rw [if_pos (by omega)]
    exact h0
  · show (if i ≤ k then lo i else _) ≤ (if i + 1 ≤ k then lo (i + 1) else w'.heap.size)
    by_cases e : i = k
    · subst e
      rw [if_pos (Nat.le_refl _), if_neg (by omega)]
      exact Nat.le_trans hs hb.size
    · rw [if_pos (by omega), if_pos (by omega)]
      exact hm i (by omega)
  · show (if k + 1 ≤ k then _ else w'.heap.size) ≤ W.heap.size
    rw [if_neg (by omega)]
    exact Nat.le_of_eq ho.size.symm
  · have hlo : lo 0 ≤ lo i := lo_le hm (by omega) (by omega)
    by_cases e : i = k
    · subst e
      rw [hl] at hl'
      injection hl' with hl'
      subst hl'
      refine ⟨g, g2, fun j hj => ?_, ?_⟩
      · show (if _ then _ else _) = _
        rw [if_pos (by omega), show i * 9 + j - i * 9 = j by omega]
      · show OwT W (if i ≤ i then lo i else _) (if i + 1 ≤ i then _ else w'.heap.size) _ _ _ _ _ _
        rw [if_pos (Nat.le_refl _), if_neg (by omega)]
        exact OwT.fr ⟨hO.1.wide hs (Nat.le_refl _), hO.2.wide hs (Nat.le_refl _)⟩ hF (.inr (by omega)) (Nat.le_refl _)
    · obtain ⟨g', g2', h1, h2⟩ := hr i t' (by omega) hl'
      have hl1 : lo (i + 1) ≤ lo k := lo_le hm (by omega) (Nat.le_refl _)
      refine ⟨g', g2', fun j hj => ?_, ?_⟩
      · show (if _ then _ else _) = _
        rw [if_neg (by omega)]
        exact h1 j hj
      · show OwT W (if i ≤ k then lo i else _) (if i + 1 ≤ k then lo (i + 1) else _) _ _ _ _ _ _
        rw [if_pos (by omega), if_pos (by omega)]
        exact (h2.fr (FR.of_below (lo := w.heap.size) (hi := w.heap.size) hb) (.inl (by omega)) (by omega)).fr hF (.inr (by omega)) (by have := hb.size; omega)
theorem RT.ts (h : RT w N n L n) (hln : L.length = n) {M : Nat} (hc : cntT L ≤ M) : Ts M w w.heap.size (some ⟨N, 0, none⟩) n L := ⟨hln, fun hn => by
  obtain ⟨f, lo, hf, hz, h0, hm, hs, hr⟩ := h
  refine ⟨N, 0, rfl, hf.lt, fun k t hx => ?_⟩
  have hk := lt_get hx
  obtain ⟨g, g2, h1, h2⟩ := hr k t (by omega) hx
  have hl := len_le hx
  have hl1 : lo (k + 1) ≤ lo n := lo_le hm (by omega) (Nat.le_refl _)
  have q : ∀ j, j < 9 → w.cell? ⟨N, 0 + k * 9 + j, none⟩ = some (xf t.x (.slice (some ⟨g, 0, none⟩) t.R.length t.R.length) (.slice (some ⟨g2, 0, none⟩) t.S.length t.S.length) j) := fun j hj => by
    rw [show 0 + k * 9 + j = k * 9 + j by omega, hf.cell (by omega), h1 j hj]
  exact ⟨_, _, _, _, _, _, ⟨q 0 (by omega), q 1 (by omega), q 2 (by omega), q 3 (by omega), q 4 (by omega), q 5 (by omega), q 6 (by omega), q 7 (by omega), q 8 (by omega)⟩, by omega, by omega, h2.1.vs (by omega), h2.2.vs (by omega)⟩⟩
end
theorem info_tx : (Tryz.prog.info? 55).map (fun i => (i.zero, i.size, i.bytes)) = some (some (.agg #[.int .i64 0, .int .i64 0, .int .i64 0, .int .i64 0, .int .i64 0, .int .i64 0, .int .i64 0, .slice none 0 0, .slice none 0 0]), 9, 104) := by kernel_rfl
theorem make_txs (n : Nat) (hn : n ≤ 2097152) (w : World) :
    (Instr.makeSlice 35 (.int .i64 (n : Int)) (.int .i64 (n : Int))).run Tryz.prog w = .ok (.slice (some ⟨w.heap.size, 0, none⟩) n n) (w.alloc (.cells (madeCells #[.int .i64 0, .int .i64 0, .int .i64 0, .int .i64 0, .int .i64 0, .int .i64 0, .int .i64 0, .slice none 0 0, .slice none 0 0] (n * 9)) 55)) := by
  obtain ⟨i0, hi, hz0, hz1, hz2⟩ := info_parts info_tx
  have hr := run_make (P := Tryz.prog) w 35 55 i0 _ Tryz.underlying35 hi hz0 .i64 .i64 n n (by omega) (by omega) (by rw [hz2]; omega) (by omega)
  simp only [Int.toNat_natCast, hz1, Value.cells] at hr
  exact hr
theorem RT.made (w : World) (n : Nat) (L : List Tr) : RT (w.alloc (.cells (madeCells #[.int .i64 0, .int .i64 0, .int .i64 0, .int .i64 0, .int .i64 0, .int .i64 0, .int .i64 0, .slice none 0 0, .slice none 0 0] (n * 9)) 55)) w.heap.size n L 0 := by
  refine ⟨fun i => zf (i % 9), fun _ => w.heap.size + 1, ⟨_, heap_alloc_new w _, size_madeCells _ _, fun i hi => ?_⟩, fun i _ _ => rfl, Nat.lt_succ_self _, fun i h => absurd h (by omega), by simp, fun i t h => absurd h (by omega)⟩
  have h9 := nine (i % 9) (Nat.mod_lt _ (by omega))
  simp only [madeCells, Array.getElem?_map, Array.getElem?_range, if_pos hi, Option.map_some, Option.some.injEq]
  rw [show (#[.int .i64 0, .int .i64 0, .int .i64 0, .int .i64 0, .int .i64 0, .int .i64 0, .int .i64 0, .slice none 0 0, .slice none 0 0] : Array Value).size = 9 from rfl, getElem!_def, h9]
/-- a copy of its own -/
def CopTs (n : Nat) (L : List Tr) (w : World) (e : Ending) (w' : World) : Prop := ∃ N, e = .returned (.slice (some ⟨N, 0, none⟩) n n) ∧ w.heap.size ≤ N ∧ N < w'.heap.size ∧ RT w' N n L n ∧ Below w.heap.size w w'
set_option maxRecDepth 100000 in
set_option maxHeartbeats 3200000 in
theorem copy_txs {w : World} {B n c : Nat} {A : Option Addr} {L : List Tr} (hn : n ≤ 2097152) (hc : cntT L ≤ 2097152) (h1 : Ts 2097152 w B A n L) (hB : B ≤ w.heap.size) :
    Calls Tryz.prog 22 #[.slice A n c] w (CopTs n L w) := by
  have H1 := Lib.hid h1
  have hln := h1.1
  have hmk := make_txs n hn w
  clear h1
  go_enter Tryz.func22, Tryz.ntmps22
  go_wp2
  obtain ⟨N, hN⟩ : ∃ N, N = w.heap.size := ⟨_, rfl⟩
  have hR0 := RT.made w n L
  have hb0 := new1 w (.cells (madeCells #[.int .i64 0, .int .i64 0, .int .i64 0, .int .i64 0, .int .i64 0, .int .i64 0, .int .i64 0, .slice none 0 0, .slice none 0 0] (n * 9)) 55)
  rw [← hN] at hR0
  simp only [← hN]
  generalize w.alloc (.cells (madeCells #[.int .i64 0, .int .i64 0, .int .i64 0, .int .i64 0, .int .i64 0, .int .i64 0, .int .i64 0, .slice none 0 0, .slice none 0 0] (n * 9)) 55) = w0 at hR0 hb0 ⊢
  have hN2 : w.heap.size ≤ N := by omega
  clear hN hmk
  go_loopw [4] (fun i wr => ∃ k : Nat, k ≤ n ∧ i = .int .i64 k ∧ RT wr N n L k ∧ Below w.heap.size w wr) (fun i _ => n - (intOf i).toNat)
  case atStart => exact ⟨0, by omega, rfl, hR0, hb0⟩
  case round =>
    obtain ⟨k, hk, rfl, hR, hb⟩ := hrel
    have hNl := hR.lt
    by_cases hlt : k < n
    · obtain ⟨b, o, t9, A1, n1, c1, A2, n2, c2, rfl, hbB, hx, ⟨a0, a1, a2, a3, a4, a5, a6, a7, a8⟩, hn1, hn2, hv1, hv2⟩ := (H1.out.below (below_le hb hB)).at_ hlt
      have HB := Lib.hid hb
      have HR := Lib.hid hR
      have HX := Lib.hid hx
      have HV1 := Lib.hid hv1
      have HV2 := Lib.hid hv2
      have hsz := hb.size
      have hBw : B ≤ wr.heap.size := by omega
      clear hb hx hR hR0 hb0 hv1 hv2
      go_wp2_with fail
      refine (own_tx t9.x (by omega) (by omega) HV1.out HV2.out hBw).mono ?_
      rintro e W1 ⟨g, g2, rfl, hO, hb1⟩
      have HL1 : Hid (t9.R.length = n1) := Lib.hid HV1.out.1
      have HL2 : Hid (t9.S.length = n2) := Lib.hid HV2.out.1
      have hR1 := HR.out.below hln hk hb1
      have z0 := hR1.zero hlt (j := 0) (by omega)
      have z1 := hR1.zero hlt (j := 1) (by omega)
      have z2 := hR1.zero hlt (j := 2) (by omega)
      have z3 := hR1.zero hlt (j := 3) (by omega)
      have z4 := hR1.zero hlt (j := 4) (by omega)
      have z5 := hR1.zero hlt (j := 5) (by omega)
      have z6 := hR1.zero hlt (j := 6) (by omega)
      have z7 := hR1.zero hlt (j := 7) (by omega)
      have z8 := hR1.zero hlt (j := 8) (by omega)
      simp only [Nat.add_zero] at z0
      have f0 := hR1.frozen (k * 9)
      have f1 := hR1.frozen (k * 9 + 1)
      have f2 := hR1.frozen (k * 9 + 2)
      have f3 := hR1.frozen (k * 9 + 3)
      have f4 := hR1.frozen (k * 9 + 4)
      have f5 := hR1.frozen (k * 9 + 5)
      have f6 := hR1.frozen (k * 9 + 6)
      have f7 := hR1.frozen (k * 9 + 7)
      have f8 := hR1.frozen (k * 9 + 8)
      have HB1 := Lib.hid hb1
      have HO := Lib.hid hO
      clear hR1 hb1 hO a0 a1 a2 a3 a4 a5 a6 a7 a8
      go_wp2_with fail
      go_roundw
      case rel =>
        exact ⟨k + 1, by omega, by go_num, HR.out.set hln HB1.out hlt HX.out (g := g) (g2 := g2) (by rw [HL1.out, HL2.out]; exact HO.out) rfl (by rw [HL1.out]) (by rw [HL2.out]), (HB.out.trans (HB1.out.mono HB.out.size)).trans ((put9_off W1 N k t9.x (.slice (some ⟨g, 0, none⟩) n1 n1) (.slice (some ⟨g2, 0, none⟩) n2 n2)).below hN2)⟩
      case measure => simp [intOf]; omega
    · obtain rfl : k = n := by omega
      have HB := Lib.hid hb
      have HR := Lib.hid hR
      clear hb hR hR0 hb0
      go_wp2
      go_ret
      exact ⟨N, rfl, hN2, hNl, HR.out, HB.out⟩
/-- the copy, read plainly -/
theorem copied_txs {w : World} {B n c : Nat} {A : Option Addr} {L : List Tr} (hn : n ≤ 2097152) (hc : cntT L ≤ 2097152) (h1 : Ts 2097152 w B A n L) (hB : B ≤ w.heap.size) :
    Calls Tryz.prog 22 #[.slice A n c] w fun e w' => ∃ N, e = .returned (.slice (some ⟨N, 0, none⟩) n n) ∧ Ts 2097152 w' w'.heap.size (some ⟨N, 0, none⟩) n L ∧ Below w.heap.size w w' :=
  (copy_txs hn hc h1 hB).mono fun e w' ⟨N, he, _, _, hR, hb⟩ => ⟨N, he, hR.ts h1.1 hc, hb⟩
/-! the comparison -/
set_option maxRecDepth 100000 in
set_option maxHeartbeats 3200000 in
theorem same_txs {w : World} {B n c c2 : Nat} {A A2 : Option Addr} {L : List Tr} (hn : n ≤ 140737488355328) (h1 : Ts 140737488355328 w B A n L) (h2 : Ts 140737488355328 w B A2 n L) (hB : B ≤ w.heap.size) :
    Calls Tryz.prog 32 #[.slice A n c, .slice A2 n c2] w fun e w' => e = .returned (.bool true) ∧ Below w.heap.size w w' := by
  have H1 := Lib.hid h1
  have H2 := Lib.hid h2
  clear h1 h2
  go_enter Tryz.func32, Tryz.ntmps32
  go_wp2
  go_loopw [5] (fun i wr => ∃ k : Nat, k ≤ n ∧ i = .int .i64 k ∧ Below w.heap.size w wr) (fun i _ => n - (intOf i).toNat)
  case atStart => exact ⟨0, by omega, rfl, Below.refl _ _⟩
  case round =>
    obtain ⟨k, hk, rfl, hb⟩ := hrel
    by_cases hlt : k < n
    · obtain ⟨b, o, t9, A1, n1, c1, A3, n3, c3, rfl, hbB, hx, ⟨a0, a1, a2, a3, a4, a5, a6, a7, a8⟩, hn1, hn3, hv1, hv3⟩ := (H1.out.below (below_le hb hB)).at_ hlt
      obtain ⟨b', o', t9', A1', n1', c1', A3', n3', c3', rfl, hbB', hx', ⟨e0, e1, e2, e3, e4, e5, e6, e7, e8⟩, hn1', hn3', hv1', hv3'⟩ := (H2.out.below (below_le hb hB)).at_ hlt
      obtain rfl : t9 = t9' := by rw [hx] at hx'; exact Option.some.inj hx'
      obtain rfl : n1 = n1' := by rw [← hv1.1, ← hv1'.1]
      obtain rfl : n3 = n3' := by rw [← hv3.1, ← hv3'.1]
      have HB := Lib.hid hb
      have hbs := hb.size
      have HV := Lib.hid hv1
      have HV' := Lib.hid hv1'
      have HU := Lib.hid hv3
      have HU' := Lib.hid hv3'
      clear hb hx hx' hv1 hv1' hv3 hv3'
      go_wp2_with fail
      go_still_tail 8, (by kernel_rfl)
      change wpList _ _ _ _ _ wr.drew
      go_wp2_with fail
      refine (same_tx (w := wr.drew) (B := B) t9.x hn1 hn3 HV.out HV'.out HU.out HU'.out (by simp; omega)).mono ?_
      rintro e W1 ⟨rfl, hb1⟩
      have HB1 := Lib.hid hb1
      clear hb1
      go_wp2_with fail
      go_roundw
      case rel => exact ⟨k + 1, by omega, by go_num, HB.out.drew.trans (HB1.out.mono HB.out.size)⟩
      case measure => simp [intOf]; omega
    · go_wp2
      go_ret
      exact ⟨rfl, hb⟩
end Go.Proofs.YtjnlbhmddhpmaaaGreat.ts
