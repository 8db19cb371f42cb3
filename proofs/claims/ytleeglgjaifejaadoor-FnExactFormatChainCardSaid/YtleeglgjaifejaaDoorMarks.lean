/- FormatMark and ParseMark of the model and of the program: the same answer at every int and at every string of at most 1048576 bytes, and nothing that was there is written. The program's lean on the library's variables. -/
import Derived.Test.YtleeglgjaifejaaDoorParInt
import Derived.Test.YtleeglgjaifejaaDoorVars
import Derived.WalkKit
import Derived.ProofKit
import Derived.OpenShut
import Derived.ShutString
import Derived.ChangeOld
import Derived.Below
import Derived.Lib.Hide
namespace Go.Proofs.YtleeglgjaifejaaDoor.marks
open Go.ChangeShapes Go.WideShapes Go.ChangeAt Go.RowKit
open Go.Proofs.YtleeglgjaifejaaDoor.fmtn Go.Proofs.YtleeglgjaifejaaDoor.fmtInt Go.Proofs.YtleeglgjaifejaaDoor.dig Go.Proofs.YtleeglgjaifejaaDoor.tabs Go.Proofs.YtleeglgjaifejaaDoor.parInt Go.Proofs.YtleeglgjaifejaaDoor.vars
set_option linter.unusedVariables false
set_option linter.unusedSimpArgs false
def In (lo hi x : Int) : Bool := decide (lo ≤ x) && decide (x ≤ hi)
theorem in_yes (lo hi x : Int) (h : lo ≤ x ∧ x ≤ hi) : In lo hi x = true := by simp [In, h.1, h.2]
theorem in_no (lo hi x : Int) (h : ¬ (lo ≤ x ∧ x ≤ hi)) : In lo hi x = false := by simp only [In, Bool.and_eq_false_iff, decide_eq_false_iff_not]; omega
theorem in_range (x lo hi : Int) (w : World) :
    Calls Tryd.prog 35 #[.int .i64 x, .int .i64 lo, .int .i64 hi] w fun e w' => e = .returned (.bool (In lo hi x)) ∧ w = w' := by
  go_enter Tryd.func35, Tryd.ntmps35
  by_cases h : lo ≤ x
  · have d : decide (lo ≤ x) = true := decide_eq_true h
    go_wp2
    go_ret
    simp [In, d]
  · have d : decide (lo ≤ x) = false := decide_eq_false h
    go_wp2
    go_ret
    simp [In, d]
theorem mark_valid (x : Int) (w : World) :
    Calls Tryd.prog 72 #[.int .i64 x] w fun e w' => e = .returned (.bool (In 0 1000 x)) ∧ w = w' := by
  go_enter Tryd.func72, Tryd.ntmps72
  by_cases h : 0 ≤ x
  · have d : decide ((0 : Int) ≤ x) = true := decide_eq_true h
    go_wp2
    go_ret
    simp [In, d]
  · have d : decide ((0 : Int) ≤ x) = false := decide_eq_false h
    go_wp2
    go_ret
    simp [In, d]
theorem spec_mark (x : Int) (w : World) :
    Calls Tryd.prog 56 #[.int .i64 x] w fun e w' => e = .returned (.bool (In 0 1000 x)) ∧ w = w' := by
  have H := Lib.hid (in_range x 0 1000 w)
  go_enter Tryd.func56, Tryd.ntmps56
  go_wp2_with fail
  refine H.out.mono ?_
  rintro e W1 ⟨rfl, rfl⟩
  go_wp2_with fail
  go_ret
  exact ⟨rfl, rfl⟩
abbrev infS : ByteArray := { data := #[105, 110, 102] }
/-- What FormatMark answers. -/
def FM (n : Int) : ByteArray := if 0 ≤ n ∧ n ≤ 999 then S (Lib.itoa n) else if n = 1000 then infS else ByteArray.empty
theorem fm_in {n : Int} (h : 0 ≤ n ∧ n ≤ 999) : FM n = S (Lib.itoa n) := if_pos h
theorem fm_inf : FM 1000 = infS := rfl
theorem fm_out {n : Int} (h : ¬ (0 ≤ n ∧ n ≤ 1000)) : FM n = ByteArray.empty := by unfold FM; rw [if_neg (by omega), if_neg (by omega)]
theorem spec_fm (n : Int) (w : World) (h0 : -9223372036854775808 ≤ n) (h1 : n ≤ 9223372036854775807) :
    Calls Tryd.prog 41 #[.int .i64 n] w fun e w' => e = .returned (.string (FM n)) ∧ Below w.heap.size w w' := by
  have H := Lib.hid (spec_mark n w)
  by_cases h : 0 ≤ n ∧ n ≤ 1000
  · have hi := in_yes 0 1000 n h
    by_cases hinf : n = 1000
    · subst hinf
      go_enter Tryd.func41, Tryd.ntmps41
      go_wp2_with fail
      refine H.out.mono ?_
      rintro e W1 ⟨rfl, rfl⟩
      rw [hi]
      go_wp2_with fail
      go_ret
      exact ⟨rfl, Below.refl _ _⟩
    · have hne : (n == 1000) = false := by simpa using hinf
      have HE := Lib.hid (fm_in (n := n) (by omega))
      have HF := Lib.hid (fun W => spec_fmt n W h0 h1)
      clear hinf h
      go_enter Tryd.func41, Tryd.ntmps41
      go_wp2_with fail
      refine H.out.mono ?_
      rintro e W1 ⟨rfl, rfl⟩
      rw [hi]
      go_wp2_with fail
      refine (HF.out _).mono ?_
      rintro e W2 ⟨rfl, hb⟩
      go_wp2_with fail
      go_ret
      exact ⟨by rw [HE.out]; rfl, hb⟩
  · have hi := in_no 0 1000 n h
    have HE := Lib.hid (fm_out h)
    clear h
    go_enter Tryd.func41, Tryd.ntmps41
    go_wp2_with fail
    refine H.out.mono ?_
    rintro e W1 ⟨rfl, rfl⟩
    rw [hi]
    go_wp2_with fail
    go_ret
    exact ⟨by rw [HE.out]; rfl, Below.refl _ _⟩
theorem impl_text (n : Int) (w : World) (h0 : -9223372036854775808 ≤ n) (h1 : n ≤ 9223372036854775807) (htab : Lib.TabIs Tryd.prog w "internal/strconv.uint64pow10" .u64 Lib.pow10Tab) :
    Calls Tryd.prog 66 #[.int .i64 n] w fun e w' => e = .returned (.string (FM n)) ∧ Below w.heap.size w w' := by
  have H := Lib.hid (mark_valid n w)
  have HT := Lib.hid htab
  clear htab
  by_cases h : 0 ≤ n ∧ n ≤ 1000
  · have hi := in_yes 0 1000 n h
    by_cases hinf : n = 1000
    · subst hinf
      go_enter Tryd.func66, Tryd.ntmps66
      go_wp2_with fail
      refine H.out.mono ?_
      rintro e W1 ⟨rfl, rfl⟩
      rw [hi]
      go_wp2_with fail
      go_ret
      exact ⟨rfl, Below.refl _ _⟩
    · have hne : (n == 1000) = false := by simpa using hinf
      have HE := Lib.hid (fm_in (n := n) (by omega))
      have HF := Lib.hid (fun W hW => impl_fmt n W h0 h1 hW)
      clear hinf h
      go_enter Tryd.func66, Tryd.ntmps66
      go_wp2_with fail
      refine H.out.mono ?_
      rintro e W1 ⟨rfl, rfl⟩
      rw [hi]
      go_wp2_with fail
      refine (HF.out _ HT.out).mono ?_
      rintro e W2 ⟨rfl, hb⟩
      go_wp2_with fail
      go_ret
      exact ⟨by rw [HE.out]; rfl, hb⟩
  · have hi := in_no 0 1000 n h
    have HE := Lib.hid (fm_out h)
    clear h
    go_enter Tryd.func66, Tryd.ntmps66
    go_wp2_with fail
    refine H.out.mono ?_
    rintro e W1 ⟨rfl, rfl⟩
    rw [hi]
    go_wp2_with fail
    go_ret
    exact ⟨by rw [HE.out]; rfl, Below.refl _ _⟩
theorem impl_fm (n : Int) (w : World) (h0 : -9223372036854775808 ≤ n) (h1 : n ≤ 9223372036854775807) (htab : Lib.TabIs Tryd.prog w "internal/strconv.uint64pow10" .u64 Lib.pow10Tab) :
    Calls Tryd.prog 57 #[.int .i64 n] w fun e w' => e = .returned (.string (FM n)) ∧ Below w.heap.size w w' := by
  have H := Lib.hid (impl_text n w h0 h1 htab)
  clear htab
  go_enter Tryd.func57, Tryd.ntmps57
  go_wp2_with fail
  refine H.out.mono ?_
  rintro e W1 ⟨rfl, hb⟩
  go_wp2_with fail
  go_ret
  exact ⟨rfl, hb⟩
/-- The string is the format of a mark; its number. -/
def Mk (s : ByteArray) (n : Int) : Prop := (s = infS ∧ n = 1000) ∨ (s ≠ infS ∧ Num s n ∧ 0 ≤ n ∧ n ≤ 999)
theorem list_inj {a b : ByteArray} (h : a.toList = b.toList) : a = b := by
  rw [ByteArray.toList_eq, ByteArray.toList_eq] at h
  cases a; cases b
  simp only at h
  rw [Array.toList_inj.mp h]
theorem inf_ne {s : ByteArray} (h : s ≠ infS) : (s.toList == [105, 110, 102]) = false := by
  rw [beq_eq_false_iff_ne]
  exact fun e => h (list_inj (e.trans (by decide +kernel)))
end Go.Proofs.YtleeglgjaifejaaDoor.marks
