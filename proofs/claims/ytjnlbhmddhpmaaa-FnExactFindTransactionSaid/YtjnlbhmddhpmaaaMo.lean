/- Marks of a store of one's own, row by row: only the rows' own blocks change. -/
import Derived.Test.YtjnlbhmddhpmaaaMv
import Derived.Test.YtjnlbhmddhpmaaaOs
import Derived.LoopTactic
import Derived.Lib.Hide
namespace Go.Proofs.Ytjnlbhmddhpmaaa.mo
open Go.ChangeShapes Go.WideShapes Go.ChangeAt Go.RowKit
open Go.Proofs.Ytjnlbhmddhpmaaa.vers Go.Proofs.Ytjnlbhmddhpmaaa.sl Go.Proofs.Ytjnlbhmddhpmaaa.st Go.Proofs.Ytjnlbhmddhpmaaa.flat Go.Proofs.Ytjnlbhmddhpmaaa.os Go.Proofs.Ytjnlbhmddhpmaaa.marks Go.Proofs.Ytjnlbhmddhpmaaa.mv
open Go.Proofs.Ytjnlbhmddhpmaaa.fr (FR)
open Go.Proofs.Ytjnlbhmddhpmaaa.el2 (E2)
open Go.Proofs.Ytjnlbhmddhpmaaa.ints (ival)
set_option linter.unusedVariables false
set_option linter.unusedSimpArgs false
/-- the block k is none of the rows' -/
def Off9 (F : Nat → Option Addr) (C : List (List Ver)) (k : Nat) : Prop := ∀ i l, C[i]? = some l → F i ≠ some ⟨k, 0, none⟩
structure MO (W : World) (lo hi g n : Nat) (F : Nat → Option Addr) (D : Nat → Nat) (C : List (List Ver)) (k0 : Int) (j : Nat) : Prop where
  len : C.length = n
  gl : lo ≤ g
  gh : g < hi
  cell : ∀ i l, C[i]? = some l → W.cell? ⟨g, i, none⟩ = some (.slice (F i) l.length (D i))
  rowM : ∀ i l, C[i]? = some l → i < j → MvS W lo hi (F i) l.length (k0 + ((cnt (C.take i) * 5 : Nat) : Int))
  rowO : ∀ i l, C[i]? = some l → ¬ i < j → OvS W lo hi (F i) l.length l
  ne : Off9 F C g
  apart : ∀ i i' l l' q, i ≠ i' → C[i]? = some l → C[i']? = some l' → F i = some ⟨q, 0, none⟩ → F i' ≠ some ⟨q, 0, none⟩
section
variable {W W' : World} {lo hi g n j : Nat} {F : Nat → Option Addr} {D : Nat → Nat} {C : List (List Ver)} {k0 : Int} {v : Value}
theorem OvS.kept {A : Option Addr} {m : Nat} {l : List Ver} (h : OvS W lo hi A m l) (hk : ∀ q, A = some ⟨q, 0, none⟩ → W'.heap[q]? = W.heap[q]?) : OvS W' lo hi A m l := by
  obtain ⟨hl2, c, ho, hq⟩ := h
  refine ⟨hl2, c, Go.Proofs.Ytjnlbhmddhpmaaa.oq.own_of ho fun q e => ?_, hq⟩
  rcases ho.2 with ⟨h0, h1⟩ | ⟨b, cap, cur, e2, hb, hh, hr⟩
  · rw [h0] at e; cases e
  · rw [e2] at e
    injection e with e
    subst e
    injection e2 with e3 _ _
    exact hk _ e3
theorem MvS.kept {A : Option Addr} {m : Nat} {k1 : Int} (h : MvS W lo hi A m k1) (hk : ∀ q, A = some ⟨q, 0, none⟩ → W'.heap[q]? = W.heap[q]?) : MvS W' lo hi A m k1 := fun hm => by
  obtain ⟨b, M, e, h1, h2, hM, hx⟩ := h hm
  exact ⟨b, M, e, h1, h2, hM, hx.of_block (hk b e)⟩
theorem MO.kept (h : MO W lo hi g n F D C k0 j) (hg : W'.heap[g]? = W.heap[g]?) (hk : ∀ q, ¬ Off9 F C q → W'.heap[q]? = W.heap[q]?) : MO W' lo hi g n F D C k0 j where
  len := h.len
  gl := h.gl
  gh := h.gh
  cell := fun i l hl => (World.cell?_of_block (a := ⟨g, i, none⟩) hg).trans (h.cell i l hl)
  rowM := fun i l hl hi => MvS.kept (h.rowM i l hl hi) fun q e => hk q fun o => o i l hl e
  rowO := fun i l hl hi => OvS.kept (h.rowO i l hl hi) fun q e => hk q fun o => o i l hl e
  ne := h.ne
  apart := h.apart
theorem MO.below (h : MO W lo hi g n F D C k0 j) (hh : hi ≤ W.heap.size) (hb : Below W.heap.size W W') (hlt : ∀ q, ¬ Off9 F C q → q < W.heap.size) : MO W' lo hi g n F D C k0 j :=
  h.kept (hb.block g (by have := h.gh; omega)) fun q hq => hb.block q (hlt q hq)
/-- a row has been marked -/
theorem MO.step {l : List Ver} (h : MO W lo hi g n F D C k0 j) (hl : C[j]? = some l) (hm : MvS W' lo hi (F j) l.length (k0 + ((cnt (C.take j) * 5 : Nat) : Int))) (hk : ∀ k, (∀ b, F j = some ⟨b, 0, none⟩ → 0 < l.length → k ≠ b) → W'.heap[k]? = W.heap[k]?) : MO W' lo hi g n F D C k0 (j + 1) where
  len := h.len
  gl := h.gl
  gh := h.gh
  cell := fun i l' hl' => (World.cell?_of_block (a := ⟨g, i, none⟩) (hk g fun b e _ e2 => h.ne j l hl (e2 ▸ e))).trans (h.cell i l' hl')
  rowM := fun i l' hl' hi => by
    rcases Nat.lt_or_ge i j with hlt | hge
    · exact MvS.kept (h.rowM i l' hl' hlt) fun q e => hk q fun b e2 _ e3 => h.apart i j l' l q (by omega) hl' hl e (e3 ▸ e2)
    · obtain rfl : i = j := by omega
      rw [hl] at hl'
      injection hl' with hl'
      subst hl'
      exact hm
  rowO := fun i l' hl' hi => OvS.kept (h.rowO i l' hl' (by omega)) fun q e => hk q fun b e2 _ e3 => h.apart i j l' l q (by omega) hl' hl e (e3 ▸ e2)
  ne := h.ne
  apart := h.apart
theorem MO.of_os (h : OS W lo v n C) (hn : 0 < n) (hh : W.heap.size ≤ hi) (k0 : Int) : ∃ g cap F D, v = .slice (some ⟨g, 0, none⟩) n cap ∧ MO W lo hi g n F D C k0 0 ∧ (∃ cur, W.heap[g]? = some (.cells cur 100 (0, 0))) ∧ (∀ q, ¬ Off9 F C q → ∃ cur, W.heap[q]? = some (.cells cur 99 (0, 0))) := by
  obtain ⟨vals, h1, h2, h3, h4⟩ := h
  rcases h1.2 with ⟨_, h0⟩ | ⟨g, cap, cur, rfl, hbg, hgg, _⟩
  · have := h1.1
    rw [h0] at this
    simp at this
    omega
  · have hgl := (h1.lt g rfl).2
    have key : ∀ i l, C[i]? = some l → ∃ A c, vals[i]? = some (Value.slice A l.length c) ∧ W.ownsRow lo 99 5 (.slice A l.length c) l.length (flat l) := fun i l hl => by
      have hi : i < vals.length := by have := lt_of_some hl; have := h1.1; omega
      obtain ⟨l2, hl2, hr⟩ := h3 i _ (List.getElem?_eq_getElem hi)
      rw [hl] at hl2
      injection hl2 with hl2
      subst hl2
      obtain ⟨A, c, he, _⟩ := own_vs hr rfl
      rw [he] at hr
      exact ⟨A, c, by rw [List.getElem?_eq_getElem hi, he], hr⟩
    obtain ⟨F, hF⟩ : ∃ F : Nat → Option Addr, ∀ i A m c, vals[i]? = some (Value.slice A m c) → F i = A := ⟨fun i => match vals[i]? with | some (Value.slice A _ _) => A | _ => none, fun i A m c e => by simp only [e]⟩
    obtain ⟨D, hD⟩ : ∃ D : Nat → Nat, ∀ i A m c, vals[i]? = some (Value.slice A m c) → D i = c := ⟨fun i => match vals[i]? with | some (Value.slice _ _ c) => c | _ => 0, fun i A m c e => by simp only [e]⟩
    have own : ∀ {A : Option Addr} {m c q : Nat} {xs : List Value}, W.ownsRow lo 99 5 (.slice A m c) m xs → A = some ⟨q, 0, none⟩ → (Value.slice A m c).ownBlock = some q := fun hr e => by subst e; rfl
    refine ⟨g, cap, F, D, rfl, ⟨h2, hbg, by omega, fun i l hl => ?_, fun _ _ _ hi => absurd hi (by omega), fun i l hl _ => ?_, fun i l hl e => ?_, fun i i' l l' q hne hl hl' e e' => ?_⟩, ⟨cur, hgg⟩, fun q hq => ?_⟩
    · obtain ⟨A, c, hv, hr⟩ := key i l hl
      rw [hF _ _ _ _ hv, hD _ _ _ _ hv]
      have hc := h1.cellAt (g := g) (cap := cap) i (by have := lt_of_some hl; omega)
      rw [hv] at hc
      exact hc
    · obtain ⟨A, c, hv, hr⟩ := key i l hl
      rw [hF _ _ _ _ hv]
      exact OvS.of_own hr rfl hh
    · obtain ⟨A, c, hv, hr⟩ := key i l hl
      rw [hF _ _ _ _ hv] at e
      exact Go.Proofs.Ytjnlbhmddhpmaaa.os.row_ne h1 hr (own hr e) rfl
    · obtain ⟨A, c, hv, hr⟩ := key i l hl
      obtain ⟨A', c', hv', hr'⟩ := key i' l' hl'
      rw [hF _ _ _ _ hv] at e
      rw [hF _ _ _ _ hv'] at e'
      exact h4 i i' _ _ hne hv hv' q (own hr e) (own hr' e')
    · rcases Classical.em (∃ cur, W.heap[q]? = some (.cells cur 99 (0, 0))) with h9 | h9
      · exact h9
      · exact absurd (fun i l hl e => by
          obtain ⟨A, c, hv, hr⟩ := key i l hl
          rw [hF _ _ _ _ hv] at e
          exact h9 (own_cells hr (own hr e))) hq
theorem lt_of_cells {q : Nat} {cur : Array Value} {t : TypeId} (h : W.heap[q]? = some (.cells cur t (0, 0))) : q < W.heap.size := by
  rcases Nat.lt_or_ge q W.heap.size with h9 | h9
  · exact h9
  · rw [Array.getElem?_eq_none h9] at h; cases h
/-- a list of another type lies elsewhere -/
theorem apart_list {t t' : TypeId} {lo2 hi2 m q b : Nat} {A : Option Addr} {R : List E2} {cur : Array Value} (ho : Go.Proofs.Ytjnlbhmddhpmaaa.ow2.OwS t W lo2 hi2 A m R) (ht : t ≠ t') (hq : W.heap[q]? = some (.cells cur t' (0, 0))) (e : A = some ⟨b, 0, none⟩) (hm : 0 < m) : q ≠ b := by
  rintro rfl
  obtain ⟨g, M, f, e2, _, _, ⟨c2, hc2, _⟩, _⟩ := ho.2 hm
  rw [e] at e2
  injection e2 with e2
  injection e2 with e2
  subst e2
  rw [hq] at hc2
  injection hc2 with e3
  injection e3 with _ e4 _
  exact ht e4.symm
end
set_option maxRecDepth 100000 in
set_option maxHeartbeats 1600000 in
theorem mark_os {w : World} {lo hi g n c : Nat} {F : Nat → Option Addr} {D : Nat → Nat} {C : List (List Ver)} {k0 : Int} (h0 : 0 ≤ k0) (h1 : k0 ≤ 1048576) (hn : n ≤ 1048576) (hc : cnt C ≤ 1048576) (h : MO w lo hi g n F D C k0 0) :
    Calls Try.prog 78 #[.slice (some ⟨g, 0, none⟩) n c, .int .i64 k0] w fun e w' => e = .returned (.int .i64 (k0 + ((cnt C * 5 : Nat) : Int))) ∧ MO w' lo hi g n F D C k0 n ∧ FR lo hi w w' ∧ w'.heap.size = w.heap.size ∧ ∀ k, Off9 F C k → w'.heap[k]? = w.heap[k]? := by
  have H := Lib.hid h
  have hl := h.len
  clear h
  go_enter Try.func78, Try.ntmps78
  go_wp2
  go_loopw [1, 5] (fun k i wr => ∃ j : Nat, j ≤ n ∧ i = .int .i64 j ∧ k = .int .i64 (k0 + ((cnt (C.take j) * 5 : Nat) : Int)) ∧ MO wr lo hi g n F D C k0 j ∧ FR lo hi w wr ∧ wr.heap.size = w.heap.size ∧ ∀ k, Off9 F C k → wr.heap[k]? = w.heap[k]?) (fun _ i _ => n - (intOf i).toNat)
  case atStart => exact ⟨0, by omega, rfl, ival (by simp [cnt]), H.out, FR.same _, rfl, fun _ _ => rfl⟩
  case round =>
    obtain ⟨j, hj, rfl, rfl, hm, hf, hs, hk⟩ := hrel
    have HM := Lib.hid hm
    have HF := Lib.hid hf
    have HK := Lib.hid hk
    by_cases hlt : j < n
    · obtain ⟨l, hx⟩ : ∃ l, C[j]? = some l := ⟨_, List.getElem?_eq_getElem (by omega)⟩
      have hcell := hm.cell j l hx
      have HR := Lib.hid (hm.rowO j l hx (by omega))
      have HX := Lib.hid hx
      have hlen := len_le hx
      have hct := cnt_take hx
      have hcl := cnt_le C j
      obtain ⟨x, hxx⟩ : ∃ x : Int, x = k0 + ((cnt (C.take j) * 5 : Nat) : Int) := ⟨_, rfl⟩
      have x0 : 0 ≤ x := by omega
      have x1 : x ≤ 1152921504606846976 := by omega
      rw [← hxx]
      have HXX := Lib.hid hxx
      clear hm hf hk hx hxx
      go_wp2_with fail
      refine (mark_v x0 x1 (by omega) HR.out).mono ?_
      rintro e W1 ⟨rfl, hm1, hf1, hs1, hk1⟩
      have HM2 := Lib.hid (HM.out.step HX.out (by rw [← HXX.out]; exact hm1) hk1)
      have HF2 := Lib.hid (HF.out.trans hf1)
      have HK2 := Lib.hid (fun (k : Nat) (ho : Off9 F C k) => (hk1 k fun b e _ e2 => ho j l HX.out (e2 ▸ e)).trans (HK.out k ho))
      have hs2 : W1.heap.size = w.heap.size := by omega
      clear hm1 hf1 hk1 hcell hs1
      go_wp2_with fail
      go_roundw
      case rel => exact ⟨j + 1, by omega, by go_num, ival (by have := HXX.out; omega), HM2.out, HF2.out, hs2, HK2.out⟩
      case measure => simp [intOf]; omega
    · obtain rfl : j = n := by omega
      have ha := cnt_all hl
      rw [ha]
      clear hm hf hk
      go_wp2_with fail
      go_ret
      exact ⟨rfl, HM.out, HF.out, hs, HK.out⟩
set_option maxRecDepth 100000 in
set_option maxHeartbeats 1600000 in
theorem held_os {w : World} {lo hi g n c : Nat} {F : Nat → Option Addr} {D : Nat → Nat} {C : List (List Ver)} {k0 : Int} (h0 : 0 ≤ k0) (h1 : k0 ≤ 1048576) (hn : n ≤ 1048576) (hc : cnt C ≤ 1048576) (h : MO w lo hi g n F D C k0 n) :
    Calls Try.prog 81 #[.slice (some ⟨g, 0, none⟩) n c, .int .i64 k0] w fun e w' => e = .returned (.int .i64 (k0 + ((cnt C * 5 : Nat) : Int))) ∧ w = w' := by
  have H := Lib.hid h
  have hl := h.len
  clear h
  go_enter Try.func81, Try.ntmps81
  go_wp2
  go_loop [1, 5] (fun k i => ∃ j : Nat, j ≤ n ∧ i = .int .i64 j ∧ k = .int .i64 (k0 + ((cnt (C.take j) * 5 : Nat) : Int))) (fun _ i => n - (intOf i).toNat)
  case atStart => exact ⟨0, by omega, rfl, ival (by simp [cnt])⟩
  case round =>
    obtain ⟨j, hj, rfl, rfl⟩ := hrel
    by_cases hlt : j < n
    · obtain ⟨l, hx⟩ : ∃ l, C[j]? = some l := ⟨_, List.getElem?_eq_getElem (by omega)⟩
      have hcell := H.out.cell j l hx
      have HR := Lib.hid (H.out.rowM j l hx hlt)
      have hlen := len_le hx
      have hct := cnt_take hx
      have hcl := cnt_le C j
      obtain ⟨x, hxx⟩ : ∃ x : Int, x = k0 + ((cnt (C.take j) * 5 : Nat) : Int) := ⟨_, rfl⟩
      have x0 : 0 ≤ x := by omega
      have x1 : x ≤ 1152921504606846976 := by omega
      have x2 : decide (x + ((l.length * 5 : Nat) : Int) < 0) = false := decide_eq_false (by omega)
      rw [← hxx]
      have HXX := Lib.hid hxx
      clear hx hxx
      go_wp2_with fail
      refine (held_v x0 x1 (by omega) (by rw [HXX.out]; exact HR.out)).mono ?_
      rintro e W1 ⟨rfl, rfl⟩
      go_wp2_with fail
      go_round
      case rel => exact ⟨j + 1, by omega, by go_num, ival (by have := HXX.out; omega)⟩
      case measure => simp [intOf]; omega
    · obtain rfl : j = n := by omega
      have ha := cnt_all hl
      rw [ha]
      go_wp2_with fail
      go_ret
      exact ⟨rfl, rfl⟩
theorem mark_s0 {w : World} {c : Nat} {A : Option Addr} (k0 : Int) :
    Calls Try.prog 39 #[.agg #[.slice A 0 c], .int .i64 k0] w fun e w' => e = .returned (.int .i64 k0) ∧ Below w.heap.size w w' := by
  have HR := Lib.hid (fun (W : World) => show Calls Try.prog 78 #[.slice A 0 c, .int .i64 k0] W fun e w' => e = .returned (.int .i64 k0) ∧ W = w' by
    go_enter Try.func78, Try.ntmps78
    go_wp2
    go_loop [1, 5] (fun k i => k = .int .i64 k0 ∧ i = .int .i64 0) (fun _ _ => 0)
    case atStart => exact ⟨rfl, rfl⟩
    case round =>
      obtain ⟨rfl, rfl⟩ := hrel
      go_wp2
      go_ret
      exact ⟨rfl, rfl⟩)
  go_enter Try.func39, Try.ntmps39
  go_wp2_with fail
  have hb := new1 w (.cells #[.slice A 0 c] 24)
  generalize w.alloc _ = W0 at hb ⊢
  have HB := Lib.hid hb
  clear hb
  refine (HR.out W0).mono ?_
  rintro e W1 ⟨rfl, rfl⟩
  go_wp2_with fail
  go_ret
  exact ⟨rfl, HB.out⟩
theorem held_s0 {w : World} {c : Nat} {A : Option Addr} (k0 : Int) (h0 : 0 ≤ k0) :
    Calls Try.prog 43 #[.agg #[.slice A 0 c], .int .i64 k0] w fun e w' => e = .returned (.int .i64 k0) ∧ Below w.heap.size w w' := by
  have x2 : decide (k0 < 0) = false := decide_eq_false (by omega)
  have HR := Lib.hid (fun (W : World) => show Calls Try.prog 81 #[.slice A 0 c, .int .i64 k0] W fun e w' => e = .returned (.int .i64 k0) ∧ W = w' by
    go_enter Try.func81, Try.ntmps81
    go_wp2
    go_loop [1, 5] (fun k i => k = .int .i64 k0 ∧ i = .int .i64 0) (fun _ _ => 0)
    case atStart => exact ⟨rfl, rfl⟩
    case round =>
      obtain ⟨rfl, rfl⟩ := hrel
      go_wp2
      go_ret
      exact ⟨rfl, rfl⟩)
  go_enter Try.func43, Try.ntmps43
  go_wp2_with fail
  have hb := new1 w (.cells #[.slice A 0 c] 24)
  generalize w.alloc _ = W0 at hb ⊢
  have HB := Lib.hid hb
  clear hb
  refine (HR.out W0).mono ?_
  rintro e W1 ⟨rfl, rfl⟩
  go_wp2_with fail
  go_ret
  exact ⟨rfl, HB.out⟩
/-! a store -/
theorem mark_s {w : World} {lo hi g n c : Nat} {F : Nat → Option Addr} {D : Nat → Nat} {C : List (List Ver)} {k0 : Int} (h0 : 0 ≤ k0) (h1 : k0 ≤ 1048576) (hn : n ≤ 1048576) (hc : cnt C ≤ 1048576) (h : MO w lo hi g n F D C k0 0) (hh : hi ≤ w.heap.size) (hlt : ∀ q, ¬ Off9 F C q → q < w.heap.size) :
    Calls Try.prog 39 #[.agg #[.slice (some ⟨g, 0, none⟩) n c], .int .i64 k0] w fun e w' => e = .returned (.int .i64 (k0 + ((cnt C * 5 : Nat) : Int))) ∧ MO w' lo hi g n F D C k0 n ∧ FR lo hi w w' ∧ ∀ k, k < w.heap.size → Off9 F C k → w'.heap[k]? = w.heap[k]? := by
  have H := Lib.hid h
  have HLT := Lib.hid hlt
  clear h hlt
  go_enter Try.func39, Try.ntmps39
  go_wp2_with fail
  have hb := new1 w (.cells #[.slice (some ⟨g, 0, none⟩) n c] 24)
  generalize w.alloc _ = W0 at hb ⊢
  have HB := Lib.hid hb
  have h2 := H.out.below hh hb HLT.out
  clear hb
  refine (mark_os h0 h1 hn hc h2).mono ?_
  rintro e W1 ⟨rfl, hm, hf, hs, hk⟩
  have HM := Lib.hid hm
  have HF := Lib.hid ((FR.of_below (lo := lo) (hi := hi) HB.out).trans hf)
  have HK := Lib.hid hk
  clear hm hf hk h2
  go_wp2_with fail
  go_ret
  exact ⟨rfl, HM.out, HF.out, fun k hk ho => (HK.out k ho).trans (HB.out.block k hk)⟩
theorem held_s {w : World} {lo hi g n c : Nat} {F : Nat → Option Addr} {D : Nat → Nat} {C : List (List Ver)} {k0 : Int} (h0 : 0 ≤ k0) (h1 : k0 ≤ 1048576) (hn : n ≤ 1048576) (hc : cnt C ≤ 1048576) (h : MO w lo hi g n F D C k0 n) (hh : hi ≤ w.heap.size) (hlt : ∀ q, ¬ Off9 F C q → q < w.heap.size) :
    Calls Try.prog 43 #[.agg #[.slice (some ⟨g, 0, none⟩) n c], .int .i64 k0] w fun e w' => e = .returned (.int .i64 (k0 + ((cnt C * 5 : Nat) : Int))) ∧ Below w.heap.size w w' := by
  have H := Lib.hid h
  have HLT := Lib.hid hlt
  have x2 : decide (k0 + ((cnt C * 5 : Nat) : Int) < 0) = false := decide_eq_false (by omega)
  clear h hlt
  go_enter Try.func43, Try.ntmps43
  go_wp2_with fail
  have hb := new1 w (.cells #[.slice (some ⟨g, 0, none⟩) n c] 24)
  generalize w.alloc _ = W0 at hb ⊢
  have HB := Lib.hid hb
  have h2 := H.out.below hh hb HLT.out
  clear hb
  refine (held_os h0 h1 hn hc h2).mono ?_
  rintro e W1 ⟨rfl, rfl⟩
  clear h2
  go_wp2_with fail
  go_ret
  exact ⟨rfl, HB.out⟩
end Go.Proofs.Ytjnlbhmddhpmaaa.mo
