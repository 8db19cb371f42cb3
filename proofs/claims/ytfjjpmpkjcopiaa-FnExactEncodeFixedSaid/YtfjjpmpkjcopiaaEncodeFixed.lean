/- EncodeFixed of the program answers as its model at every number and width: the law returns true and writes nothing that was there. No condition. -/
import Derived.Test.YtfjjpmpkjcopiaaRows
import Derived.Test.YtfjjpmpkjcopiaaNum
import Derived.Test.YtfjjpmpkjcopiaaConv
import Derived.WalkKit
import Derived.ProofKit
import Derived.OpenShut
import Derived.ShutString
import Derived.ChangeOld
import Derived.Below
import Derived.Lib.Hide
namespace Go.Proofs.Ytfjjpmpkjcopiaa.fnExactEncodeFixed
open Go.ChangeShapes Go.WideShapes Go.ChangeAt Go.RowKit
open Go.ChangeMaps (open_string shut_string)
open Go.Proofs.Ytfjjpmpkjcopiaa.num Go.Proofs.Ytfjjpmpkjcopiaa.conv
set_option linter.unusedVariables false
attribute [local go_sem] conv1
theorem spec_yes (m wd : Nat) (w : World) (h0 : m ≤ 9223372036854775807) (h1 : 1 ≤ wd) (h2 : wd ≤ 7) :
    Calls Try.prog 9 #[.int .i64 m, .int .i64 wd] w fun e w' => e = Ending.returned (.string (fixS m wd)) ∧ Below w.heap.size w w' := by
  have hd : decide ((m : Int) < 0) = false := by simp
  go_enter Try.func9, Try.ntmps9
  go_wp2
  go_loopw [0, 5, 6] (fun t o i wr => ∃ (k : Nat), k ≤ wd ∧ i = .int .i64 k ∧ t = .int .i64 (q m k) ∧ o = .string (lowS m k) ∧ Below w.heap.size w wr) (fun _ _ i _ => ((wd : Int) - intOf i).toNat)
  case atStart => exact ⟨0, by omega, rfl, by rw [q_zero], rfl, Below.refl _ _⟩
  case round =>
    obtain ⟨k, hk, rfl, rfl, rfl, hb⟩ := hrel
    have hql := q_le m k
    have HS := Lib.hid (lowS_succ m k)
    have HQ := Lib.hid (q_succ m k)
    have HP := Lib.hid (fun h => fixS_fits (m := m) (wd := k) h)
    have HN := Lib.hid (fun h => fixS_big (m := m) (wd := k) h)
    have hss : (lowS m k).size ≤ 7 := by rw [lowS_size]; omega
    generalize q m k = x at *
    generalize lowS m k = s at *
    by_cases hlt : k < wd
    · clear HP HN
      go_wp2
      go_roundw
      case rel => exact ⟨k + 1, by omega, by go_num, by rw [HQ.out]; rfl, by rw [← HS.out], hb.alloc hb.size _⟩
      case measure => simp [intOf]; omega
    · obtain rfl : k = wd := by omega
      by_cases hz : x = 0
      · have HF := Lib.hid (HP.out hz)
        clear HP HN
        go_wp2
        go_ret
        exact ⟨by rw [HF.out]; rfl, hb⟩
      · have HF := Lib.hid (HN.out hz)
        clear HP HN
        have hz' : (0 : Int) < (x : Int) := by omega
        go_wp2
        go_ret
        exact ⟨by rw [HF.out]; rfl, hb⟩
theorem impl_big (m wd : Nat) (w : World) (h0 : m ≤ 9223372036854775807) (h1 : 1 ≤ wd) (h2 : wd ≤ 7) (hq : ¬ q m wd = 0) :
    Calls Try.prog 10 #[.int .i64 m, .int .i64 wd] w fun e w' => e = Ending.returned (.string (fixS m wd)) ∧ Below w.heap.size w w' := by
  have HF := Lib.hid (fixS_big hq)
  have hne : ((m : Int) / 2 ^ (8 * wd) != 0) = true := by
    rw [q_two] at hq
    have : ((m / 2 ^ (8 * wd) : Nat) : Int) ≠ 0 := by omega
    simpa using this
  clear hq
  go_enter Try.func10, Try.ntmps10
  go_wp2
  go_ret
  exact ⟨by rw [HF.out]; rfl, Below.refl _ _⟩
theorem impl_fits (m wd : Nat) (w : World) (h0 : m ≤ 9223372036854775807) (h1 : 1 ≤ wd) (h2 : wd ≤ 7) (hq : q m wd = 0) :
    Calls Try.prog 10 #[.int .i64 m, .int .i64 wd] w fun e w' => e = Ending.returned (.string (fixS m wd)) ∧ Below w.heap.size w w' := by
  have HF := Lib.hid (fixS_fits hq)
  have hne : ((m : Int) / 2 ^ (8 * wd) != 0) = false := by
    rw [q_two] at hq
    have : ((m / 2 ^ (8 * wd) : Nat) : Int) = 0 := by omega
    simpa using this
  have hneg : decide ((m : Int) < 0) = false := by simp
  clear hq
  have hmk := fun (W : World) => run_make_row' (P := Try.prog) 36 5 (.int .u8 0) 1 Try.underlying36 info5 rfl .i64 .i64 wd (by omega) (by omega) W
  go_enter Try.func10, Try.ntmps10
  go_wp2
  clear hmk
  go_loopw [0, 6] (fun t i wr => ∃ (k : Nat) (j : Int), -1 ≤ j ∧ j + 1 + k = wd ∧ i = .int .i64 j ∧ t = .int .i64 (q m k) ∧ wr.rowIs w.heap.size 5 wd (rowF m wd k) ∧ Below w.heap.size w wr) (fun _ i _ => (intOf i + 1).toNat)
  case atStart => exact ⟨0, _, by omega, by omega, rfl, by rw [q_zero], (World.rowIs_made _ _ _ _).congr fun j hj => (rowF_zero m wd j hj).symm, (Below.refl _ _).alloc (Nat.le_refl _) _⟩
  case round =>
    obtain ⟨k, j, hj0, hj, rfl, rfl, hr, hb⟩ := hrel
    have hql := q_le m k
    have HQ := Lib.hid (q_succ m k)
    have HR := Lib.hid (fun (i : Nat) (h : i + 1 + k = wd) (jj : Nat) => rowF_succ m wd k i jj h)
    by_cases hlt : 0 ≤ j
    · obtain ⟨i, rfl⟩ := Int.eq_ofNat_of_zero_le hlt
      have hi : i < wd := by omega
      have hc := hr.cell hi
      have hf := hr.frozen i
      have HH := Lib.hid hr
      have HJ := Lib.hid hj
      clear hj hr
      generalize q m k = x at *
      go_wp2
      go_roundw
      case rel => exact ⟨k + 1, _, by omega, by have := HJ.out; omega, rfl, by rw [HQ.out]; rfl, (HH.out.set i _).congr fun jj _ => HR.out i (by have := HJ.out; omega) jj, hb.setCell (Nat.le_refl _) _⟩
      case measure => simp [intOf]
    · have hk : k = wd := by omega
      subst hk
      have hcv := run_convert_bytes_back (P := Try.prog) wr 36 9 5 ⟨w.heap.size, 0, none⟩ k (low m k) Try.underlying36 Try.underlying5 Try.underlying9 (fun jj hjj => by
        rw [low_length] at hjj
        rw [Addr.add_lit, Nat.zero_add, hr.cell hjj, rowF_full m k jj hjj])
      rw [low_length] at hcv
      clear hr
      go_wp2
      go_ret
      exact ⟨by rw [HF.out]; rfl, hb⟩

theorem spec_no (n wd : Int) (w : World) (h : wd < 1 ∨ 7 < wd ∨ n < 0) :
    Calls Try.prog 9 #[.int .i64 n, .int .i64 wd] w fun e w' => e = Ending.returned (.string ByteArray.empty) ∧ Below w.heap.size w w' := by
  by_cases h1 : wd < 1
  · clear h
    go_enter Try.func9, Try.ntmps9
    go_wp2
    go_ret
    exact ⟨rfl, Below.refl _ _⟩
  · by_cases h2 : 7 < wd
    · clear h
      go_enter Try.func9, Try.ntmps9
      go_wp2
      go_ret
      exact ⟨rfl, Below.refl _ _⟩
    · have h3 : n < 0 := by omega
      clear h
      go_enter Try.func9, Try.ntmps9
      go_wp2
      go_ret
      exact ⟨rfl, Below.refl _ _⟩
theorem impl_no (n wd : Int) (w : World) (h : wd < 1 ∨ 7 < wd ∨ n < 0) :
    Calls Try.prog 10 #[.int .i64 n, .int .i64 wd] w fun e w' => e = Ending.returned (.string ByteArray.empty) ∧ Below w.heap.size w w' := by
  by_cases h1 : wd < 1
  · clear h
    go_enter Try.func10, Try.ntmps10
    go_wp2
    go_ret
    exact ⟨rfl, Below.refl _ _⟩
  · by_cases h2 : 7 < wd
    · clear h
      go_enter Try.func10, Try.ntmps10
      go_wp2
      go_ret
      exact ⟨rfl, Below.refl _ _⟩
    · have h3 : n < 0 := by omega
      clear h
      go_enter Try.func10, Try.ntmps10
      go_wp2
      go_ret
      exact ⟨rfl, Below.refl _ _⟩
/-- Whatever the two arguments: both functions answer the same string. -/
theorem both (n wd : Int) (hn : (Lit.int .i64 n).wf = true) : ∃ S : ByteArray, ∀ w : World,
    Calls Try.prog 9 #[.int .i64 n, .int .i64 wd] w (fun e w' => e = .returned (.string S) ∧ Below w.heap.size w w') ∧
    Calls Try.prog 10 #[.int .i64 n, .int .i64 wd] w (fun e w' => e = .returned (.string S) ∧ Below w.heap.size w w') := by
  by_cases h : wd < 1 ∨ 7 < wd ∨ n < 0
  · exact ⟨_, fun w => ⟨spec_no n wd w h, impl_no n wd w h⟩⟩
  · have hb := bounds_i64 hn
    obtain ⟨m, rfl⟩ := Int.eq_ofNat_of_zero_le (show 0 ≤ n by omega)
    obtain ⟨d, rfl⟩ := Int.eq_ofNat_of_zero_le (show 0 ≤ wd by omega)
    refine ⟨fixS m d, fun w => ⟨spec_yes m d w (by omega) (by omega) (by omega), ?_⟩⟩
    by_cases hq : q m d = 0
    · exact impl_fits m d w (by omega) (by omega) (by omega) hq
    · exact impl_big m d w (by omega) (by omega) (by omega) hq

theorem walk (a0 a1 : Int) (w0 : (Lit.int .i64 a0).wf = true) (w1 : (Lit.int .i64 a1).wf = true) (w : World) :
    Calls Try.prog 3 #[.int .i64 a0, .int .i64 a1] w fun e w' => e = .returned (.bool true) ∧ Below w.heap.size w w' := by
  obtain ⟨S, hB⟩ := both a0 a1 w0
  have HB := Lib.hid hB
  clear hB
  go_enter Try.func3, Try.ntmps3
  go_wp2_with fail
  refine (HB.out _).1.mono ?_
  rintro e W1 ⟨rfl, hb1⟩
  go_wp2_with fail
  refine (HB.out _).2.mono ?_
  rintro e W2 ⟨rfl, hb2⟩
  go_wp2_with fail
  go_ret
  exact ⟨rfl, hb1.trans (hb2.mono hb1.size)⟩

/-! ### THE ROW's STEP -/
set_option maxRecDepth 100000 in
theorem lifted (os : Os) (started : os.Started) (H : Type) (enc : TypeId × Value → H) :
    ReturnsInHanded {} Try.checked os 3 .any (Rows.fnExactEncodeFixedSpec.pre6 enc Try.prog Try.f3 Rows.fnExactEncodeFixedRow.domain false) (Rows.fnExactEncodeFixedSpec.post enc Try.prog Try.f3 false true false false) := by
  refine returnsInHanded_of_change (C := Try.checked) own started (by kernel_rfl) Try.func3
    (ChangeSpec.witness6 (enc := enc) (C := Try.checked) false ⟨#[], #[.int .i64 0, .int .i64 0], []⟩ 8 (by kernel_rfl) (by kernel_rfl) (by kernel_rfl) (by kernel_rfl)) ?_
  intro W base args ds gs before hval0 hW hcnd _
  have hval : ∀ (j : Nat) t v, Try.f3.params[j]? = some t → args[j]? = some v → Value.okWide Try.prog W .any base t v := hval0
  have hW' := hW
  obtain ⟨p, q, hA0, hV, rfl, hfz, hnd⟩ := hW
  have hA : DataW.TrodAll enc Try.prog W 0 (fun _ => true) true Try.f3.params.toList args.toList ds p := hA0
  rw [Try.params3] at hA hval
  obtain ⟨v0, vs0, d0, ds0, p0, q0, hargs, rfl, rfl, h0, r0⟩ := trodAll_cons hA
  obtain ⟨v1, vs1, d1, ds1, p1, q1, rfl, rfl, rfl, h1, r1⟩ := trodAll_cons r0
  obtain ⟨rfl, rfl, rfl⟩ := trodAll_nil r1
  obtain rfl : args = #[v0, v1] := by cases args; simp_all
  obtain ⟨rfl, rfl⟩ := trodVars_none hV
  obtain ⟨a0, rfl, rfl, rfl, w0⟩ := open_int Try.underlying3 (hval 0 3 v0 rfl rfl) h0
  obtain ⟨a1, rfl, rfl, rfl, w1⟩ := open_int Try.underlying3 (hval 1 3 v1 rfl rfl) h1
  clear hA0 hval0
  refine (walk a0 a1 w0 w1 W).mono fun e W' ⟨he, bel⟩ => ?_
  subst he
  exact ⟨_, rfl, _, _, _, [], _, [], hW', trodAll_mk1 (shut_bool Try.underlying4 _), (trodAll_cons_mk (shut_int Try.underlying3 w0) (trodAll_cons_mk (shut_int Try.underlying3 w1) trodAll_mk0)), rfl, bel.frame _, fun h => by cases h⟩

theorem over : Rows.fnExactEncodeFixedRow.holds Try.pinned (OpenSpec.ofChange Rows.fnExactEncodeFixedSpec) :=
  OpenClaim.holds_of_wide 3 Try.f3 rfl rfl rfl rfl rfl rfl rfl ⟨rfl, rfl, rfl, rfl, rfl⟩ rfl rfl rfl rfl rfl (by kernel_rfl) Try.func3 (by kernel_rfl)
    (of_decide_eq_true (by kernel_rfl)) (by unfold Func.isWrapper; first | (rw [if_pos (by decide +kernel)]; kernel_rfl) | (rw [if_neg (by decide +kernel)]; exact ⟨rfl, rfl⟩))
    (fun os started H enc _ => lifted os started H enc)

/-- THE STATEMENT -/
theorem proved : Rows.FnExactEncodeFixedSaid := over
#print axioms proved
end Go.Proofs.Ytfjjpmpkjcopiaa.fnExactEncodeFixed
