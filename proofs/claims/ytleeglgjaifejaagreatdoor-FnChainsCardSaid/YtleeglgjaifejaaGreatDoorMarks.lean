/- FormatMark and ParseMark of the model and of the program: the same answer at every int and at every string of at most 1048576 bytes, and nothing that was there is written. The program's lean on the library's variables. -/
import Derived.Test.YtleeglgjaifejaaGreatDoorParInt
import Derived.Test.YtleeglgjaifejaaGreatDoorVars
import Derived.WalkKit
import Derived.ProofKit
import Derived.OpenShut
import Derived.ShutString
import Derived.ChangeOld
import Derived.Below
import Derived.Lib.Hide
namespace Go.Proofs.YtleeglgjaifejaaGreatDoor.marks
open Go.ChangeShapes Go.WideShapes Go.ChangeAt Go.RowKit
open Go.Proofs.YtleeglgjaifejaaGreatDoor.fmtn Go.Proofs.YtleeglgjaifejaaGreatDoor.fmtInt Go.Proofs.YtleeglgjaifejaaGreatDoor.dig Go.Proofs.YtleeglgjaifejaaGreatDoor.tabs Go.Proofs.YtleeglgjaifejaaGreatDoor.parInt Go.Proofs.YtleeglgjaifejaaGreatDoor.vars
set_option linter.unusedVariables false
set_option linter.unusedSimpArgs false
def In (lo hi x : Int) : Bool := decide (lo ≤ x) && decide (x ≤ hi)
theorem in_yes (lo hi x : Int) (h : lo ≤ x ∧ x ≤ hi) : In lo hi x = true := by simp [In, h.1, h.2]
theorem in_no (lo hi x : Int) (h : ¬ (lo ≤ x ∧ x ≤ hi)) : In lo hi x = false := by simp only [In, Bool.and_eq_false_iff, decide_eq_false_iff_not]; omega
theorem in_range (x lo hi : Int) (w : World) :
    Calls Tryz.prog 40 #[.int .i64 x, .int .i64 lo, .int .i64 hi] w fun e w' => e = .returned (.bool (In lo hi x)) ∧ w = w' := by
  go_enter Tryz.func40, Tryz.ntmps40
  by_cases h : lo ≤ x
  · have d : decide (lo ≤ x) = true := decide_eq_true h
    go_wp2
    go_ret
    simp [In, d]
  · have d : decide (lo ≤ x) = false := decide_eq_false h
    go_wp2
    go_ret
    simp [In, d]
theorem mark_valid (x : Int) (w : World) :
    Calls Tryz.prog 63 #[.int .i64 x] w fun e w' => e = .returned (.bool (In 0 1000 x)) ∧ w = w' := by
  go_enter Tryz.func63, Tryz.ntmps63
  by_cases h : 0 ≤ x
  · have d : decide ((0 : Int) ≤ x) = true := decide_eq_true h
    go_wp2
    go_ret
    simp [In, d]
  · have d : decide ((0 : Int) ≤ x) = false := decide_eq_false h
    go_wp2
    go_ret
    simp [In, d]
theorem spec_mark (x : Int) (w : World) :
    Calls Tryz.prog 20 #[.int .i64 x] w fun e w' => e = .returned (.bool (In 0 1000 x)) ∧ w = w' := by
  have H := Lib.hid (in_range x 0 1000 w)
  go_enter Tryz.func20, Tryz.ntmps20
  go_wp2_with fail
  refine H.out.mono ?_
  rintro e W1 ⟨rfl, rfl⟩
  go_wp2_with fail
  go_ret
  exact ⟨rfl, rfl⟩
abbrev infS : ByteArray := { data := #[105, 110, 102] }
/-- What FormatMark answers. -/
def FM (n : Int) : ByteArray := if 0 ≤ n ∧ n ≤ 999 then S (Lib.itoa n) else if n = 1000 then infS else ByteArray.empty
theorem fm_in {n : Int} (h : 0 ≤ n ∧ n ≤ 999) : FM n = S (Lib.itoa n) := if_pos h
theorem fm_inf : FM 1000 = infS := rfl
theorem fm_out {n : Int} (h : ¬ (0 ≤ n ∧ n ≤ 1000)) : FM n = ByteArray.empty := by unfold FM; rw [if_neg (by omega), if_neg (by omega)]
theorem spec_fm (n : Int) (w : World) (h0 : -9223372036854775808 ≤ n) (h1 : n ≤ 9223372036854775807) :
    Calls Tryz.prog 70 #[.int .i64 n] w fun e w' => e = .returned (.string (FM n)) ∧ Below w.heap.size w w' := by
  have H := Lib.hid (spec_mark n w)
  by_cases h : 0 ≤ n ∧ n ≤ 1000
  · have hi := in_yes 0 1000 n h
    by_cases hinf : n = 1000
    · subst hinf
      go_enter Tryz.func70, Tryz.ntmps70
      go_wp2_with fail
      refine H.out.mono ?_
      rintro e W1 ⟨rfl, rfl⟩
      rw [hi]
      go_wp2_with fail
      go_ret
      exact ⟨rfl, Below.refl _ _⟩
    · have hne : (n == 1000) = false := by simpa using hinf
      have HE := Lib.hid (fm_in (n := n) (by omega))
      have HF := Lib.hid (fun W => spec_fmt n W h0 h1)
      clear hinf h
      go_enter Tryz.func70, Tryz.ntmps70
      go_wp2_with fail
      refine H.out.mono ?_
      rintro e W1 ⟨rfl, rfl⟩
      rw [hi]
      go_wp2_with fail
      refine (HF.out _).mono ?_
      rintro e W2 ⟨rfl, hb⟩
      go_wp2_with fail
      go_ret
      exact ⟨by rw [HE.out]; rfl, hb⟩
  · have hi := in_no 0 1000 n h
    have HE := Lib.hid (fm_out h)
    clear h
    go_enter Tryz.func70, Tryz.ntmps70
    go_wp2_with fail
    refine H.out.mono ?_
    rintro e W1 ⟨rfl, rfl⟩
    rw [hi]
    go_wp2_with fail
    go_ret
    exact ⟨by rw [HE.out]; rfl, Below.refl _ _⟩
theorem impl_text (n : Int) (w : World) (h0 : -9223372036854775808 ≤ n) (h1 : n ≤ 9223372036854775807) (htab : Lib.TabIs Tryz.prog w "internal/strconv.uint64pow10" .u64 Lib.pow10Tab) :
    Calls Tryz.prog 37 #[.int .i64 n] w fun e w' => e = .returned (.string (FM n)) ∧ Below w.heap.size w w' := by
  have H := Lib.hid (mark_valid n w)
  have HT := Lib.hid htab
  clear htab
  by_cases h : 0 ≤ n ∧ n ≤ 1000
  · have hi := in_yes 0 1000 n h
    by_cases hinf : n = 1000
    · subst hinf
      go_enter Tryz.func37, Tryz.ntmps37
      go_wp2_with fail
      refine H.out.mono ?_
      rintro e W1 ⟨rfl, rfl⟩
      rw [hi]
      go_wp2_with fail
      go_ret
      exact ⟨rfl, Below.refl _ _⟩
    · have hne : (n == 1000) = false := by simpa using hinf
      have HE := Lib.hid (fm_in (n := n) (by omega))
      have HF := Lib.hid (fun W hW => impl_fmt n W h0 h1 hW)
      clear hinf h
      go_enter Tryz.func37, Tryz.ntmps37
      go_wp2_with fail
      refine H.out.mono ?_
      rintro e W1 ⟨rfl, rfl⟩
      rw [hi]
      go_wp2_with fail
      refine (HF.out _ HT.out).mono ?_
      rintro e W2 ⟨rfl, hb⟩
      go_wp2_with fail
      go_ret
      exact ⟨by rw [HE.out]; rfl, hb⟩
  · have hi := in_no 0 1000 n h
    have HE := Lib.hid (fm_out h)
    clear h
    go_enter Tryz.func37, Tryz.ntmps37
    go_wp2_with fail
    refine H.out.mono ?_
    rintro e W1 ⟨rfl, rfl⟩
    rw [hi]
    go_wp2_with fail
    go_ret
    exact ⟨by rw [HE.out]; rfl, Below.refl _ _⟩
theorem impl_fm (n : Int) (w : World) (h0 : -9223372036854775808 ≤ n) (h1 : n ≤ 9223372036854775807) (htab : Lib.TabIs Tryz.prog w "internal/strconv.uint64pow10" .u64 Lib.pow10Tab) :
    Calls Tryz.prog 17 #[.int .i64 n] w fun e w' => e = .returned (.string (FM n)) ∧ Below w.heap.size w w' := by
  have H := Lib.hid (impl_text n w h0 h1 htab)
  clear htab
  go_enter Tryz.func17, Tryz.ntmps17
  go_wp2_with fail
  refine H.out.mono ?_
  rintro e W1 ⟨rfl, hb⟩
  go_wp2_with fail
  go_ret
  exact ⟨rfl, hb⟩
/-- The string is the format of a mark; its number. -/
def Mk (s : ByteArray) (n : Int) : Prop := (s = infS ∧ n = 1000) ∨ (s ≠ infS ∧ Num s n ∧ 0 ≤ n ∧ n ≤ 999)
theorem list_inj {a b : ByteArray} (h : a.toList = b.toList) : a = b := by
  rw [ByteArray.toList_eq, ByteArray.toList_eq] at h
  cases a; cases b
  simp only at h
  rw [Array.toList_inj.mp h]
theorem inf_ne {s : ByteArray} (h : s ≠ infS) : (s.toList == [105, 110, 102]) = false := by
  rw [beq_eq_false_iff_ne]
  exact fun e => h (list_inj (e.trans (by decide +kernel)))
theorem spec_inf (w : World) : Calls Tryz.prog 67 #[.string infS] w fun e w' => e = PYes 1000 ∧ Below w.heap.size w w' := by
  go_enter Tryz.func67, Tryz.ntmps67
  go_wp2_with fail
  go_ret2
  exact ⟨rfl, Below.refl _ _⟩
theorem impl_inf (w : World) : Calls Tryz.prog 18 #[.string infS] w fun e w' => e = PYes 1000 ∧ Below w.heap.size w w' := by
  go_enter Tryz.func18, Tryz.ntmps18
  go_wp2_with fail
  go_ret2
  exact ⟨rfl, Below.refl _ _⟩
theorem spec_in (s : ByteArray) (n : Int) (w : World) (hs : s ≠ infS) (h : Num s n) (h0 : 0 ≤ n) (h1 : n ≤ 999) :
    Calls Tryz.prog 67 #[.string s] w fun e w' => e = PYes n ∧ Below w.heap.size w w' := by
  have hne := inf_ne hs
  have HP := Lib.hid (spec_num s n w h)
  have HI := Lib.hid (fun W => in_range n 0 999 W)
  have hi := in_yes 0 999 n ⟨h0, h1⟩
  clear h hs
  go_enter Tryz.func67, Tryz.ntmps67
  go_wp2_with fail
  refine HP.out.mono ?_
  rintro e W1 ⟨he, hb⟩
  first | unfold PYes at he | unfold PNay at he
  subst he
  go_wp2_with fail
  refine (HI.out _).mono ?_
  rintro e W2 ⟨rfl, rfl⟩
  rw [hi]
  go_wp2_with fail
  go_ret2
  exact ⟨rfl, hb⟩
theorem spec_off (s : ByteArray) (n : Int) (w : World) (hs : s ≠ infS) (h : Num s n) (h0 : ¬ (0 ≤ n ∧ n ≤ 999)) :
    Calls Tryz.prog 67 #[.string s] w fun e w' => e = PNay ∧ Below w.heap.size w w' := by
  have hne := inf_ne hs
  have HP := Lib.hid (spec_num s n w h)
  have HI := Lib.hid (fun W => in_range n 0 999 W)
  have hi := in_no 0 999 n h0
  clear h hs h0
  go_enter Tryz.func67, Tryz.ntmps67
  go_wp2_with fail
  refine HP.out.mono ?_
  rintro e W1 ⟨he, hb⟩
  first | unfold PYes at he | unfold PNay at he
  subst he
  go_wp2_with fail
  refine (HI.out _).mono ?_
  rintro e W2 ⟨rfl, rfl⟩
  rw [hi]
  go_wp2_with fail
  go_ret2
  exact ⟨rfl, hb⟩
theorem spec_nay (s : ByteArray) (w : World) (hl : s.size ≤ 1048576) (hs : s ≠ infS) (h : ∀ n, ¬ Num s n) :
    Calls Tryz.prog 67 #[.string s] w fun e w' => e = PNay ∧ Below w.heap.size w w' := by
  have hne := inf_ne hs
  have HP := Lib.hid (spec_not s w hl h)
  clear h hs
  go_enter Tryz.func67, Tryz.ntmps67
  go_wp2_with fail
  refine HP.out.mono ?_
  rintro e W1 ⟨he, hb⟩
  first | unfold PYes at he | unfold PNay at he
  subst he
  go_wp2_with fail
  go_ret2
  exact ⟨rfl, hb⟩
theorem impl_in (s : ByteArray) (n : Int) (w : World) (hs : s ≠ infS) (h : Num s n) (h0 : 0 ≤ n) (h1 : n ≤ 999) (htab : Lib.TabIs Tryz.prog w "internal/strconv.uint64pow10" .u64 Lib.pow10Tab) :
    Calls Tryz.prog 18 #[.string s] w fun e w' => e = PYes n ∧ Below w.heap.size w w' := by
  have hne := inf_ne hs
  have HP := Lib.hid (impl_num s n w h htab)
  have HF := Lib.hid (fun W hW => impl_fm n W (by omega) (by omega) hW)
  have hq : ((FM n).toList == s.toList) = true := by rw [fm_in ⟨h0, h1⟩]; exact str_eq s n h.1
  have HT := Lib.hid htab
  clear h hs htab
  go_enter Tryz.func18, Tryz.ntmps18
  go_wp2_with fail
  refine HP.out.mono ?_
  rintro e W1 ⟨he, hb⟩
  first | unfold PYes at he | unfold PNay at he
  subst he
  go_wp2_with fail
  refine (HF.out _ (powTab_below HT.out hb)).mono ?_
  rintro e W2 ⟨rfl, hb2⟩
  go_wp2_with fail
  go_ret2
  exact ⟨rfl, hb.trans (hb2.mono hb.size)⟩
theorem impl_off (s : ByteArray) (n : Int) (w : World) (hs : s ≠ infS) (h : Num s n) (h0 : ¬ (0 ≤ n ∧ n ≤ 999)) (htab : Lib.TabIs Tryz.prog w "internal/strconv.uint64pow10" .u64 Lib.pow10Tab) :
    Calls Tryz.prog 18 #[.string s] w fun e w' => e = PNay ∧ Below w.heap.size w w' := by
  have hne := inf_ne hs
  have HP := Lib.hid (impl_num s n w h htab)
  have hn := h.2
  have HF := Lib.hid (fun W hW => impl_fm n W (by omega) (by omega) hW)
  have hs0 := (num_head h).1
  have hq : ((FM n).toList == s.toList) = false := by
    rw [beq_eq_false_iff_ne]
    intro e
    have e := list_inj e
    by_cases hi : n = 1000
    · subst hi; rw [fm_inf] at e; exact hs e.symm
    · rw [fm_out (by omega)] at e
      rw [← e] at hs0
      exact absurd hs0 (by decide)
  have HT := Lib.hid htab
  clear h hs htab h0 hs0
  go_enter Tryz.func18, Tryz.ntmps18
  go_wp2_with fail
  refine HP.out.mono ?_
  rintro e W1 ⟨he, hb⟩
  first | unfold PYes at he | unfold PNay at he
  subst he
  go_wp2_with fail
  refine (HF.out _ (powTab_below HT.out hb)).mono ?_
  rintro e W2 ⟨rfl, hb2⟩
  go_wp2_with fail
  go_ret2
  exact ⟨rfl, hb.trans (hb2.mono hb.size)⟩
theorem impl_nay (s : ByteArray) (w : World) (hl : s.size ≤ 1048576) (hs : s ≠ infS) (h : ∀ n, ¬ Num s n) (hF : Facts w) :
    Calls Tryz.prog 18 #[.string s] w fun e w' => e = PNay ∧ Below w.heap.size w w' := by
  have hne := inf_ne hs
  have HP := Lib.hid (impl_not s w hl h hF.1 hF.2.1 hF.2.2)
  clear h hs hF
  go_enter Tryz.func18, Tryz.ntmps18
  go_wp2_with fail
  refine HP.out.mono ?_
  rintro e W1 ⟨he, hb⟩
  first | unfold PYes at he | unfold PNay at he
  subst he
  go_wp2_with fail
  go_ret2
  exact ⟨rfl, hb⟩
/-- Whatever the string: both functions answer alike. -/
theorem bothM (s : ByteArray) (hl : s.size ≤ 1048576) : ∃ (x : Int) (b : Bool), (∀ w : World,
    Calls Tryz.prog 67 #[.string s] w (fun e w' => e = .returned (.tuple #[.int .i64 x, .bool b]) ∧ Below w.heap.size w w')) ∧
    ∀ w : World, Facts w → Calls Tryz.prog 18 #[.string s] w (fun e w' => e = .returned (.tuple #[.int .i64 x, .bool b]) ∧ Below w.heap.size w w') := by
  by_cases hs : s = infS
  · subst hs
    exact ⟨1000, true, fun w => spec_inf w, fun w _ => impl_inf w⟩
  · by_cases h : ∃ n, Num s n
    · obtain ⟨n, h⟩ := h
      by_cases hn : 0 ≤ n ∧ n ≤ 999
      · exact ⟨n, true, fun w => spec_in s n w hs h hn.1 hn.2, fun w hF => impl_in s n w hs h hn.1 hn.2 hF.1⟩
      · exact ⟨0, false, fun w => spec_off s n w hs h hn, fun w hF => impl_off s n w hs h hn hF.1⟩
    · have h' : ∀ n, ¬ Num s n := fun n hn => h ⟨n, hn⟩
      exact ⟨0, false, fun w => spec_nay s w hl hs h', fun w hF => impl_nay s w hl hs h' hF⟩
end Go.Proofs.YtleeglgjaifejaaGreatDoor.marks
