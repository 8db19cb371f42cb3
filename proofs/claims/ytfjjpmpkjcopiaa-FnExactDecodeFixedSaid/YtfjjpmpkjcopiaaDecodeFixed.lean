/- DecodeFixed of the program answers as its model at every string and width: the law returns true and writes nothing. No condition. -/
import Derived.Test.YtfjjpmpkjcopiaaRows
import Derived.Test.YtfjjpmpkjcopiaaNum
import Derived.WalkKit
import Derived.ProofKit
import Derived.OpenShut
import Derived.ShutString
import Derived.Lib.Hide
namespace Go.Proofs.Ytfjjpmpkjcopiaa.fnExactDecodeFixed
open Go.ChangeShapes Go.WideShapes Go.ChangeAt Go.RowKit
open Go.ChangeMaps (open_string shut_string)
open Go.Proofs.Ytfjjpmpkjcopiaa.num
set_option linter.unusedVariables false

theorem own : ownKnob Try.prog.godebug = none := by kernel_rfl

/-- What both answer where there is a number. -/
def Ans (s : ByteArray) (n : Int) : Ending := .returned (.tuple #[.int .i64 (dec (s.data.toList.take n.toNat)), .bool true])
def Nay : Ending := .returned (.tuple #[.int .i64 0, .bool false])

theorem spec_yes (s : ByteArray) (n : Int) (w : World) (hs : s.size ≤ maxLen) (h1 : 1 ≤ n) (h2 : n ≤ 7) (h : n ≤ (s.size : Int)) :
    Calls Try.prog 11 #[.string s, .int .i64 n] w fun e w' => e = Ans s n ∧ w = w' := by
  unfold maxLen at hs
  have hd : decide ((s.size : Int) < n) = false := by simp; omega
  go_enter Try.func11, Try.ntmps11
  go_wp2
  go_loop [6, 7] (fun t i => ∃ k : Nat, (k : Int) ≤ n ∧ i = .int .i64 k ∧ t = .int .i64 (dec (s.data.toList.take k))) (fun _ i => (n - intOf i).toNat)
  case atStart => exact ⟨0, by omega, rfl, rfl⟩
  case round =>
    obtain ⟨k, hk, rfl, rfl⟩ := hrel
    by_cases hlt : (k : Int) < n
    · have hks : k < s.size := by omega
      have hb := dec_6 (s.data.toList.take k) (by rw [List.length_take]; omega)
      have hc := s[k].toNat_lt
      have HS := Lib.hid (dec_take s k hks)
      go_wp2
      go_round
      case rel => exact ⟨k + 1, by omega, by go_num, by rw [HS.out]⟩
      case measure => simp [intOf]; omega
    · have hkn : n.toNat = k := by omega
      have HN := Lib.hid hkn
      clear hkn
      go_wp2
      go_ret2
      exact ⟨by unfold Ans; rw [HN.out]; rfl, rfl⟩
theorem impl_yes (s : ByteArray) (n : Int) (w : World) (hs : s.size ≤ maxLen) (h1 : 1 ≤ n) (h2 : n ≤ 7) (h : n ≤ (s.size : Int)) :
    Calls Try.prog 12 #[.string s, .int .i64 n] w fun e w' => e = Ans s n ∧ w = w' := by
  unfold maxLen at hs
  have hd : decide ((s.size : Int) < n) = false := by simp; omega
  go_enter Try.func12, Try.ntmps12
  go_wp2
  go_loop [6, 18] (fun t i => ∃ k : Nat, (k : Int) ≤ n ∧ i = .int .i64 k ∧ t = .int .i64 (dec (s.data.toList.take k))) (fun _ i => (n - intOf i).toNat)
  case atStart => exact ⟨0, by omega, rfl, rfl⟩
  case round =>
    obtain ⟨k, hk, rfl, rfl⟩ := hrel
    by_cases hlt : (k : Int) < n
    · have hks : k < s.size := by omega
      have hb := dec_6 (s.data.toList.take k) (by rw [List.length_take]; omega)
      have hc := s[k].toNat_lt
      have HS := Lib.hid (dec_take s k hks)
      have HO := Lib.hid (or_byte _ s[k] hb.1 hb.2)
      go_wp2
      go_round
      case rel => exact ⟨k + 1, by omega, by go_num, by rw [HS.out, ← HO.out]⟩
      case measure => simp [intOf]; omega
    · have hkn : n.toNat = k := by omega
      have HN := Lib.hid hkn
      clear hkn
      go_wp2
      go_ret2
      exact ⟨by unfold Ans; rw [HN.out]; rfl, rfl⟩
theorem spec_no (s : ByteArray) (n : Int) (w : World) (hs : s.size ≤ maxLen) (h : n < 1 ∨ 7 < n ∨ (s.size : Int) < n) :
    Calls Try.prog 11 #[.string s, .int .i64 n] w fun e w' => e = Nay ∧ w = w' := by
  unfold maxLen at hs
  by_cases h1 : n < 1
  · clear h
    go_enter Try.func11, Try.ntmps11
    go_wp2
    go_ret2
    exact ⟨rfl, rfl⟩
  · by_cases h2 : 7 < n
    · clear h
      go_enter Try.func11, Try.ntmps11
      go_wp2
      go_ret2
      exact ⟨rfl, rfl⟩
    · have h3 : (s.size : Int) < n := by omega
      clear h
      go_enter Try.func11, Try.ntmps11
      go_wp2
      go_ret2
      exact ⟨rfl, rfl⟩
theorem impl_no (s : ByteArray) (n : Int) (w : World) (hs : s.size ≤ maxLen) (h : n < 1 ∨ 7 < n ∨ (s.size : Int) < n) :
    Calls Try.prog 12 #[.string s, .int .i64 n] w fun e w' => e = Nay ∧ w = w' := by
  unfold maxLen at hs
  by_cases h1 : n < 1
  · clear h
    go_enter Try.func12, Try.ntmps12
    go_wp2
    go_ret2
    exact ⟨rfl, rfl⟩
  · by_cases h2 : 7 < n
    · clear h
      go_enter Try.func12, Try.ntmps12
      go_wp2
      go_ret2
      exact ⟨rfl, rfl⟩
    · have h3 : (s.size : Int) < n := by omega
      clear h
      go_enter Try.func12, Try.ntmps12
      go_wp2
      go_ret2
      exact ⟨rfl, rfl⟩
/-- Whatever the two arguments: both functions end alike, and leave the world. -/
theorem both (s : ByteArray) (n : Int) (hs : s.size ≤ maxLen) : ∃ (x : Int) (b : Bool), ∀ w : World,
    Calls Try.prog 11 #[.string s, .int .i64 n] w (fun e w' => e = .returned (.tuple #[.int .i64 x, .bool b]) ∧ w = w') ∧
    Calls Try.prog 12 #[.string s, .int .i64 n] w (fun e w' => e = .returned (.tuple #[.int .i64 x, .bool b]) ∧ w = w') := by
  by_cases h : n < 1 ∨ 7 < n ∨ (s.size : Int) < n
  · exact ⟨0, false, fun w => ⟨spec_no s n w hs h, impl_no s n w hs h⟩⟩
  · exact ⟨_, true, fun w => ⟨spec_yes s n w hs (by omega) (by omega) (by omega), impl_yes s n w hs (by omega) (by omega) (by omega)⟩⟩

theorem walk (a0 : ByteArray) (a1 : Int) (w0 : a0.size ≤ maxLen) (w1 : (Lit.int .i64 a1).wf = true) (w : World) :
    Calls Try.prog 4 #[.string a0, .int .i64 a1] w fun e w' => e = .returned (.bool true) ∧ Grown w w' := by
  obtain ⟨x, b, hB⟩ := both a0 a1 w0
  have HB := Lib.hid hB
  clear hB
  unfold maxLen at w0
  by_cases hbig : (1048576 : Int) < (a0.size : Int)
  · go_enter Try.func4, Try.ntmps4
    go_wp2_with fail
    go_ret
    exact ⟨rfl, Grown.refl _⟩
  · go_enter Try.func4, Try.ntmps4
    go_wp2_with fail
    refine (HB.out _).1.mono ?_
    rintro e w' ⟨rfl, rfl⟩
    go_wp2_with fail
    refine (HB.out _).2.mono ?_
    rintro e w' ⟨rfl, rfl⟩
    go_wp2_with fail
    go_ret
    exact ⟨rfl, Grown.refl _⟩
/-! ### THE ROW's STEP: WRITTEN OUT: LEAVE IT -/
set_option maxRecDepth 100000 in
theorem lifted (os : Os) (started : os.Started) (H : Type) (enc : TypeId × Value → H) :
    ReturnsInHanded {} Try.checked os 4 .any (Rows.fnExactDecodeFixedSpec.pre6 enc Try.prog Try.f4 Rows.fnExactDecodeFixedRow.domain false) (Rows.fnExactDecodeFixedSpec.post enc Try.prog Try.f4 false true false false) := by
  refine returnsInHanded_of_change (C := Try.checked) own started (by kernel_rfl) Try.func4
    (ChangeSpec.witness6 (enc := enc) (C := Try.checked) false ⟨#[], #[.string ByteArray.empty, .int .i64 0], []⟩ 8 (by kernel_rfl) (by kernel_rfl) (by kernel_rfl) (by kernel_rfl)) ?_
  intro W base args ds gs before hval0 hW hcnd _
  have hval : ∀ (j : Nat) t v, Try.f4.params[j]? = some t → args[j]? = some v → Value.okWide Try.prog W .any base t v := hval0
  have hW' := hW
  obtain ⟨p, q, hA0, hV, rfl, hfz, hnd⟩ := hW
  have hA : DataW.TrodAll enc Try.prog W 0 (fun _ => true) true Try.f4.params.toList args.toList ds p := hA0
  rw [Try.params4] at hA hval
  obtain ⟨v0, vs0, d0, ds0, p0, q0, hargs, rfl, rfl, h0, r0⟩ := trodAll_cons hA
  obtain ⟨v1, vs1, d1, ds1, p1, q1, rfl, rfl, rfl, h1, r1⟩ := trodAll_cons r0
  obtain ⟨rfl, rfl, rfl⟩ := trodAll_nil r1
  obtain rfl : args = #[v0, v1] := by cases args; simp_all
  obtain ⟨rfl, rfl⟩ := trodVars_none hV
  obtain ⟨a0, rfl, rfl, rfl, w0⟩ := open_string Try.underlying9 (hval 0 9 v0 rfl rfl) h0
  obtain ⟨a1, rfl, rfl, rfl, w1⟩ := open_int Try.underlying3 (hval 1 3 v1 rfl rfl) h1
  clear hA0 hval0
  simp only [List.append_nil] at hW'
  refine (walk a0 a1 w0 w1 W).mono fun e W' ⟨he, hg⟩ => ?_
  subst he
  exact ⟨_, rfl, post_of_same (pa := []) (pv := []) hW' (fun _ _ _ => (trodAll_cons_mk (shut_bool Try.underlying4 _) trodAll_mk0)) (fun sp _ => (trodAll_cons_mk (shut_string Try.underlying9 w0) (trodAll_cons_mk (shut_int Try.underlying3 w1) trodAll_mk0))) (fun _ _ => rfl) rfl
    (hg.frame _) hg.2.1 (ok_one (by kernel_rfl) rfl (okWide_bool_mk Try.underlying4 _))⟩

theorem over : Rows.fnExactDecodeFixedRow.holds Try.pinned (OpenSpec.ofChange Rows.fnExactDecodeFixedSpec) :=
  OpenClaim.holds_of_wide 4 Try.f4 rfl rfl rfl rfl rfl rfl rfl ⟨rfl, rfl, rfl, rfl, rfl⟩ rfl rfl rfl rfl rfl (by kernel_rfl) Try.func4 (by kernel_rfl)
    (of_decide_eq_true (by kernel_rfl)) (by unfold Func.isWrapper; first | (rw [if_pos (by decide +kernel)]; kernel_rfl) | (rw [if_neg (by decide +kernel)]; exact ⟨rfl, rfl⟩))
    (fun os started H enc _ => lifted os started H enc)

/-- ████ THE STATEMENT ████ -/
theorem proved : Rows.FnExactDecodeFixedSaid :=
  over
#print axioms proved
end Go.Proofs.Ytfjjpmpkjcopiaa.fnExactDecodeFixed
