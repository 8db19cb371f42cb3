/- When a list of lists is a store; the program's and the model's IsValidStore: what each answers; nothing that was there is written. -/
import Derived.Test.YtjnlbhmddhpmaaaGreatSt
import Derived.WalkKit
import Derived.ProofKit
import Derived.Below
import Derived.Lib.Hide
import Derived.LoopTactic
import Derived.Deep.QuietTactic
import Derived.BigQuiet
import Derived.StillTailTactics
import Derived.Outline
import Derived.IntWalk
namespace Go.Proofs.YtjnlbhmddhpmaaaGreat.val
open Go.ChangeShapes Go.WideShapes Go.ChangeAt Go.RowKit
open Go.Proofs.YtjnlbhmddhpmaaaGreat.vers Go.Proofs.YtjnlbhmddhpmaaaGreat.sl Go.Proofs.YtjnlbhmddhpmaaaGreat.ch Go.Proofs.YtjnlbhmddhpmaaaGreat.st
set_option linter.unusedVariables false
set_option linter.unusedSimpArgs false
noncomputable def okL (l : List Ver) : Bool := chB l && decide (l.length ≤ 50)
noncomputable def stB (ll : List (List Ver)) : Bool := decide (ll.length = 6) && ll.all okL
theorem okL_yes {l : List Ver} (h : chB l = true) (h2 : l.length ≤ 50) : okL l = true := by simp [okL, h, h2]
theorem okL_ch {l : List Ver} (h : chB l = false) : okL l = false := by simp [okL, h]
theorem okL_long {l : List Ver} (h2 : 50 < l.length) : okL l = false := by simp [okL]; intro _; omega
def PriL (ll : List (List Ver)) (k : Nat) : Prop := ∀ (j : Nat) (l : List Ver), j < k → ll[j]? = some l → okL l = true
theorem pril_zero (ll : List (List Ver)) : PriL ll 0 := fun j l h => absurd h (by omega)
theorem pril_step {ll : List (List Ver)} {k : Nat} {l : List Ver} (h : PriL ll k) (hx : ll[k]? = some l) (ho : okL l = true) : PriL ll (k + 1) := by
  intro j m hj hm
  by_cases e : j = k
  · subst e; rw [hx] at hm; cases hm; exact ho
  · exact h j m (by omega) hm
theorem st_bad {ll : List (List Ver)} {k : Nat} {l : List Ver} (hx : ll[k]? = some l) (ho : okL l = false) : stB ll = false := by
  have hm : l ∈ ll := List.mem_of_getElem? hx
  unfold stB
  have : ll.all okL = false := List.all_eq_false.2 ⟨l, hm, by rw [ho]; decide⟩
  rw [this, Bool.and_false]
theorem st_len {ll : List (List Ver)} (h : ll.length ≠ 6) : stB ll = false := by simp [stB, h]
theorem st_all {ll : List (List Ver)} {n : Nat} (hn : ll.length = n) (h : PriL ll n) : stB ll = decide (n = 6) := by
  have : ll.all okL = true := by
    rw [List.all_eq_true]
    intro l hl
    obtain ⟨j, hj, e⟩ := List.getElem_of_mem hl
    exact h j l (by omega) (by rw [List.getElem?_eq_getElem hj, e])
  unfold stB
  rw [this, Bool.and_true, hn]
theorem st_six {ll : List (List Ver)} (h : stB ll = true) : ll.length = 6 := by
  unfold stB at h
  simp only [Bool.and_eq_true, decide_eq_true_eq] at h
  exact h.1
theorem st_ok {ll : List (List Ver)} {k : Nat} {l : List Ver} (h : stB ll = true) (hx : ll[k]? = some l) : okL l = true := by
  unfold stB at h
  simp only [Bool.and_eq_true, decide_eq_true_eq] at h
  exact List.all_eq_true.1 h.2 l (List.mem_of_getElem? hx)
theorem okL_ch_of {l : List Ver} (h : okL l = true) : chB l = true := by
  unfold okL at h
  simp only [Bool.and_eq_true] at h
  exact h.1
theorem okL_len {l : List Ver} (h : okL l = true) : l.length ≤ 50 := by
  unfold okL at h
  simp only [Bool.and_eq_true, decide_eq_true_eq] at h
  exact h.2
theorem ch_len {l : List Ver} (h : chB l = true) : 0 < l.length := by
  rcases Nat.eq_zero_or_pos l.length with h0 | h0
  · rw [ch_none h0] at h; cases h
  · exact h0
set_option maxRecDepth 100000 in
set_option maxHeartbeats 1600000 in
theorem spec_store {w : World} {B n c : Nat} {A : Option Addr} {ll : List (List Ver)} (hn : n ≤ 140737488355328) (h1 : Rs w B A n ll) (hB : B ≤ w.heap.size) :
    Calls Tryz.prog 13 #[.agg #[.slice A n c]] w fun e w' => e = .returned (.bool (stB ll)) ∧ Below w.heap.size w w' := by
  have H1 := Lib.hid h1
  have hln := h1.1
  clear h1
  go_enter Tryz.func13, Tryz.ntmps13
  go_wp2
  have z0 := one_cell w (.slice A n c) 34
  have hb0 := new1 w (.cells #[.slice A n c] 34)
  have hs0 : (w.alloc (.cells #[.slice A n c] 34)).heap.size = w.heap.size + 1 := by simp
  generalize w.alloc _ = w0 at z0 hb0 hs0 ⊢
  have HB0 := Lib.hid hb0
  clear hb0
  go_loopw [3] (fun i wr => ∃ k : Nat, k ≤ n ∧ i = .int .i64 k ∧ PriL ll k ∧ Below w0.heap.size w0 wr) (fun i _ => n - (intOf i).toNat)
  case atStart => exact ⟨0, by omega, rfl, pril_zero ll, Below.refl _ _⟩
  case round =>
    obtain ⟨k, hk, rfl, hP, hb⟩ := hrel
    have HP := Lib.hid hP
    have c0 := (hb.cell (p := ⟨w.heap.size, 0, none⟩) (by simp; omega)).trans z0
    have hbw := HB0.out.trans (hb.mono (by omega))
    have HB := Lib.hid hb
    have HBw := Lib.hid hbw
    have hs1 := hb.size
    clear hP
    by_cases hlt : k < n
    · obtain ⟨b, o, l, A', n', c', rfl, hbB, hx, hcell, hn', hv⟩ := (H1.out.below (below_le hbw hB)).at_ hlt
      have HX := Lib.hid hx
      have HV := Lib.hid hv
      have hl1 := hv.1
      clear hb hbw hx z0
      rcases ho : chB l with _ | _
      · have HO := Lib.hid ho
        clear ho hv
        go_wp2_with fail
        refine (spec_chain hn' HV.out (by omega)).mono ?_
        rintro e W1 ⟨rfl, hb1⟩
        rw [HO.out]
        have HB1 := Lib.hid hb1
        clear hb1
        go_wp2_with fail
        go_ret
        exact ⟨ret_bool (st_bad HX.out (okL_ch HO.out)).symm, HBw.out.trans (HB1.out.mono HBw.out.size)⟩
      · have hpos := ch_len ho
        obtain ⟨b2, o2, x, rfl, hb2, hx2, a0, a1, a2, a3, a4⟩ := hv.at_ (k := 0) (by omega)
        have q : At wr b2 o2 x := by
          have : At wr b2 (o2 + 0 * 5) x := ⟨a0, a1, a2, a3, a4⟩
          simpa using this
        have Q := Lib.hid q
        have HO := Lib.hid ho
        clear ho hv hx2 a0 a1 a2 a3 a4 q
        go_wp2_with fail
        refine (spec_chain hn' HV.out (by omega)).mono ?_
        rintro e W1 ⟨rfl, hb1⟩
        rw [HO.out]
        have c1 := (hb1.cell (p := ⟨w.heap.size, 0, none⟩) (by simp; omega)).trans c0
        have c2 := (hb1.cell (p := ⟨b, o + k, none⟩) (by simp; omega)).trans hcell
        obtain ⟨q0, q1, q2, q3, q4⟩ := Q.out.keep (B := wr.heap.size) (by omega) hb1
        have HB1 := Lib.hid hb1
        clear hb1 c0 hcell q0 q1 q3 q4
        by_cases hcr : 0 < x.c
        · have t1 : decide (0 < x.c) = true := decide_eq_true hcr
          by_cases hlong : (50 : Int) < (n' : Int)
          · have t2 : decide ((50 : Int) < (n' : Int)) = true := decide_eq_true hlong
            go_wp2_with fail
            go_ret
            exact ⟨ret_bool (st_bad HX.out (okL_long (by omega))).symm, HBw.out.trans (HB1.out.mono HBw.out.size)⟩
          · have t2 : decide ((50 : Int) < (n' : Int)) = false := decide_eq_false hlong
            go_wp2_with fail
            go_roundw
            case rel => exact ⟨k + 1, by omega, by go_num, pril_step HP.out HX.out (okL_yes HO.out (by omega)), HB.out.trans (HB1.out.mono HB.out.size)⟩
            case measure => simp [intOf]; omega
        · have t1 : decide (0 < x.c) = false := decide_eq_false hcr
          by_cases hlong : (50 : Int) < (n' : Int)
          · have t2 : decide ((50 : Int) < (n' : Int)) = true := decide_eq_true hlong
            go_wp2_with fail
            go_ret
            exact ⟨ret_bool (st_bad HX.out (okL_long (by omega))).symm, HBw.out.trans (HB1.out.mono HBw.out.size)⟩
          · have t2 : decide ((50 : Int) < (n' : Int)) = false := decide_eq_false hlong
            go_wp2_with fail
            go_roundw
            case rel => exact ⟨k + 1, by omega, by go_num, pril_step HP.out HX.out (okL_yes HO.out (by omega)), HB.out.trans (HB1.out.mono HB.out.size)⟩
            case measure => simp [intOf]; omega
    · obtain rfl : k = n := by omega
      have he : ((k : Int) == 6) = stB ll := by
        rw [st_all hln HP.out]
        by_cases h6 : k = 6
        · subst h6; rfl
        · rw [decide_eq_false h6]; simp; omega
      have HE := Lib.hid he
      clear hb hbw z0 he
      go_wp2_with fail
      go_ret
      exact ⟨ret_bool HE.out, HBw.out⟩
set_option maxRecDepth 100000 in
set_option maxHeartbeats 1600000 in
theorem impl_store {w : World} {B n c : Nat} {A : Option Addr} {ll : List (List Ver)} (hn : n ≤ 140737488355328) (h1 : Rs w B A n ll) (hB : B ≤ w.heap.size) :
    Calls Tryz.prog 25 #[.agg #[.slice A n c]] w fun e w' => e = .returned (.bool (stB ll)) ∧ Below w.heap.size w w' := by
  have H1 := Lib.hid h1
  have hln := h1.1
  clear h1
  by_cases h6 : (n : Int) = 6
  case neg =>
    have t : ((n : Int) == 6) = false := by simpa using h6
    have he := st_len (ll := ll) (by omega)
    have HE := Lib.hid he
    clear he h6
    go_enter Tryz.func25, Tryz.ntmps25
    go_wp2_with fail
    go_ret
    exact ⟨ret_bool HE.out.symm, new1 _ _⟩
  have t : ((n : Int) == 6) = true := by simpa using h6
  go_enter Tryz.func25, Tryz.ntmps25
  go_wp2
  have z0 := one_cell w (.slice A n c) 34
  have hb0 := new1 w (.cells #[.slice A n c] 34)
  have hs0 : (w.alloc (.cells #[.slice A n c] 34)).heap.size = w.heap.size + 1 := by simp
  generalize w.alloc _ = w0 at z0 hb0 hs0 ⊢
  have HB0 := Lib.hid hb0
  clear hb0
  go_loopw [12] (fun i wr => ∃ k : Nat, k ≤ n ∧ i = .int .i64 k ∧ PriL ll k ∧ Below w0.heap.size w0 wr) (fun i _ => n - (intOf i).toNat)
  case atStart => exact ⟨0, by omega, rfl, pril_zero ll, Below.refl _ _⟩
  case round =>
    obtain ⟨k, hk, rfl, hP, hb⟩ := hrel
    have HP := Lib.hid hP
    have hbw := HB0.out.trans (hb.mono (by omega))
    have HB := Lib.hid hb
    have HBw := Lib.hid hbw
    have hs1 := hb.size
    clear hP
    by_cases hlt : k < n
    · obtain ⟨b, o, l, A', n', c', rfl, hbB, hx, hcell, hn', hv⟩ := (H1.out.below (below_le hbw hB)).at_ hlt
      have HX := Lib.hid hx
      have HV := Lib.hid hv
      have hl1 := hv.1
      clear hb hbw hx z0 hv
      by_cases hlong : (50 : Int) < (n' : Int)
      · have t2 : decide ((50 : Int) < (n' : Int)) = true := decide_eq_true hlong
        go_wp2_with fail
        go_ret
        exact ⟨ret_bool (st_bad HX.out (okL_long (by omega))).symm, HBw.out⟩
      have t2 : decide ((50 : Int) < (n' : Int)) = false := decide_eq_false hlong
      rcases ho : chB l with _ | _
      · have HO := Lib.hid ho
        clear ho
        go_wp2_with fail
        refine (impl_chain hn' HV.out (by omega)).mono ?_
        rintro e W1 ⟨rfl, hb1⟩
        rw [HO.out]
        have HB1 := Lib.hid hb1
        clear hb1
        go_wp2_with fail
        go_ret
        exact ⟨ret_bool (st_bad HX.out (okL_ch HO.out)).symm, HBw.out.trans (HB1.out.mono HBw.out.size)⟩
      · have HO := Lib.hid ho
        clear ho
        go_wp2_with fail
        refine (impl_chain hn' HV.out (by omega)).mono ?_
        rintro e W1 ⟨rfl, hb1⟩
        rw [HO.out]
        have HB1 := Lib.hid hb1
        clear hb1
        go_wp2_with fail
        go_roundw
        case rel => exact ⟨k + 1, by omega, by go_num, pril_step HP.out HX.out (okL_yes HO.out (by omega)), HB.out.trans (HB1.out.mono HB.out.size)⟩
        case measure => simp [intOf]; omega
    · obtain rfl : k = n := by omega
      have he : true = stB ll := by
        rw [st_all hln HP.out]
        exact (decide_eq_true (by omega)).symm
      have HE := Lib.hid he
      clear hb hbw z0 he
      go_wp2_with fail
      go_ret
      exact ⟨ret_bool HE.out, HBw.out⟩
end Go.Proofs.YtjnlbhmddhpmaaaGreat.val
