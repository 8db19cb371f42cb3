/- The law on the integer encodings at every code of at most 1048576 bytes: it returns true, and nothing that was there is written. -/
import Derived.Test.YtfjjpmpkjcopiaaDoorDraw
import Derived.Test.YtfjjpmpkjcopiaaDoorPort
import Derived.Test.YtfjjpmpkjcopiaaDoorBack
import Derived.Test.YtfjjpmpkjcopiaaDoorParInt
import Derived.Test.YtfjjpmpkjcopiaaDoorVars
import Derived.WalkKit
import Derived.ProofKit
import Derived.OpenShut
import Derived.ShutString
import Derived.ChangeOld
import Derived.Below
import Derived.Lib.Hide
namespace Go.Proofs.YtfjjpmpkjcopiaaDoor.core
open Go.ChangeShapes Go.WideShapes Go.ChangeAt Go.RowKit
open Go.Proofs.YtfjjpmpkjcopiaaDoor.num Go.Proofs.YtfjjpmpkjcopiaaDoor.var Go.Proofs.YtfjjpmpkjcopiaaDoor.val Go.Proofs.YtfjjpmpkjcopiaaDoor.hex Go.Proofs.YtfjjpmpkjcopiaaDoor.unhex Go.Proofs.YtfjjpmpkjcopiaaDoor.port Go.Proofs.YtfjjpmpkjcopiaaDoor.back Go.Proofs.YtfjjpmpkjcopiaaDoor.cur Go.Proofs.YtfjjpmpkjcopiaaDoor.draw Go.Proofs.YtfjjpmpkjcopiaaDoor.dig Go.Proofs.YtfjjpmpkjcopiaaDoor.fmtInt Go.Proofs.YtfjjpmpkjcopiaaDoor.parInt Go.Proofs.YtfjjpmpkjcopiaaDoor.vars Go.Proofs.YtfjjpmpkjcopiaaDoor.tabs
open Go.Proofs.YtfjjpmpkjcopiaaDoor.fmtn (S)
set_option linter.unusedVariables false
theorem big_no (a : Option Addr) (len cap : Nat) (w : World) (hl : len ≤ 1048576) : Calls Tryd.prog 6 #[.slice a len cap] w fun e w' => e = .returned (.bool false) ∧ w = w' := by
  have d : decide ((1048576 : Int) < (len : Int)) = false := decide_eq_false (by omega)
  go_enter Tryd.func6, Tryd.ntmps6
  go_wp2
  go_ret
  exact ⟨rfl, rfl⟩
theorem big_yes (a : Option Addr) (len cap : Nat) (w : World) (hl : 1048576 < len) : Calls Tryd.prog 6 #[.slice a len cap] w fun e w' => e = .returned (.bool true) ∧ w = w' := by
  have d : decide ((1048576 : Int) < (len : Int)) = true := decide_eq_true (by omega)
  go_enter Tryd.func6, Tryd.ntmps6
  go_wp2
  go_ret
  exact ⟨rfl, rfl⟩
theorem dv_any (s : ByteArray) (hs : s.size ≤ 1048576) : ∃ x k : Int, ∀ w : World, Calls Tryd.prog 10 #[.string s] w fun e w' => e = .returned (.tuple #[.int .i64 x, .int .i64 k]) ∧ Below w.heap.size w w' := by
  rcases first_low s with hn | ⟨i, his, hi7, hlow, hh⟩
  · exact ⟨0, 0, fun w => dv_none s w hs hn⟩
  · by_cases hg : VGood (s.data.toList.take (i + 1))
    · exact ⟨_, _, fun w => dv_at s i w hs his hi7 hlow hh hg⟩
    · exact ⟨0, 0, fun w => dv_bad s i w hs his hi7 hlow hh hg⟩
theorem empty_yes : (ByteArray.empty).toList.isEmpty = true := by rw [ByteArray.toList_eq]; rfl
theorem empty_no (s : ByteArray) (h : 0 < s.size) : s.toList.isEmpty = false := by
  rw [ByteArray.toList_eq]
  have hl : 0 < s.data.toList.length := by rw [Array.length_toList]; exact h
  cases e : s.data.toList with
  | nil => rw [e] at hl; simp at hl
  | cons c r => rfl
/-- The three ways of the varint's part. -/
def VWay (n x k : Int) (s : ByteArray) : Prop :=
  ((s.toList.isEmpty = false ∧ x = n ∧ k = (s.size : Int)) ∧ 0 ≤ n ∧ n ≤ 562949953421311) ∨ (s.toList.isEmpty = true ∧ n < 0) ∨ (s.toList.isEmpty = true ∧ 0 ≤ n ∧ 562949953421311 < n)
theorem vpart (n : Int) (T : ByteArray) (hT : T.size ≤ 40) : ∃ (s : ByteArray) (x k : Int), s.size ≤ 7 ∧ (∀ w : World, Calls Tryd.prog 9 #[.int .i64 n] w fun e w' => e = .returned (.string s) ∧ Below w.heap.size w w') ∧
    (∀ w : World, Calls Tryd.prog 10 #[.string (s ++ T)] w fun e w' => e = .returned (.tuple #[.int .i64 x, .int .i64 k]) ∧ Below w.heap.size w w') ∧ VWay n x k s := by
  by_cases h : n < 0 ∨ 562949953421311 < n
  · obtain ⟨x, k, hx⟩ := dv_any (ByteArray.empty ++ T) (by rw [ByteArray.size_append]; show 0 + T.size ≤ _; omega)
    refine ⟨ByteArray.empty, x, k, by decide, fun w => ev_no n w h, hx, ?_⟩
    by_cases h0 : n < 0
    · exact .inr (.inl ⟨empty_yes, h0⟩)
    · exact .inr (.inr ⟨empty_yes, by omega, by omega⟩)
  · obtain ⟨m, rfl⟩ := Int.eq_ofNat_of_zero_le (show 0 ≤ n by omega)
    have hm : m ≤ 562949953421311 := by omega
    have h7 := venc_len7 m hm
    obtain ⟨i, his, hi7, hi1, hlow, hh, hg, hv⟩ := varint_head m hm T
    have hd := fun w => dv_at (vencS m ++ T) i w (by rw [ByteArray.size_append, vencS_size]; omega) his hi7 hlow hh hg
    rw [hv] at hd
    exact ⟨vencS m, (m : Int), ((i + 1 : Nat) : Int), by rw [vencS_size]; exact h7, fun w => ev_yes m w hm, hd, .inl ⟨⟨empty_no _ (by omega), rfl, by rw [hi1]⟩, by omega, by omega⟩⟩
/-- The two ways of the fixed part. -/
def FWay (v d y : Int) (f : ByteArray) (is : Bool) : Prop :=
  (f.toList.isEmpty = false ∧ is = true ∧ v = y ∧ (f.size : Int) = d) ∨ f.toList.isEmpty = true
theorem df_any (s : ByteArray) (d : Int) (hs : s.size ≤ 1048576) : ∃ (y : Int) (b : Bool), ∀ w : World, Calls Tryd.prog 13 #[.string s, .int .i64 d] w fun e w' => e = .returned (.tuple #[.int .i64 y, .bool b]) ∧ w = w' := by
  have hm : s.size ≤ maxLen := by unfold maxLen; omega
  by_cases h : d < 1 ∨ 7 < d ∨ (s.size : Int) < d
  · exact ⟨0, false, fun w => df_no s d w hm h⟩
  · exact ⟨_, true, fun w => df_yes s d w hm (by omega) (by omega) (by omega)⟩
theorem fpart (v d : Int) (T : ByteArray) (hT : T.size ≤ 40) (v0 : -9223372036854775808 ≤ v) (v1 : v ≤ 9223372036854775807) : ∃ (f : ByteArray) (y : Int) (is : Bool), f.size ≤ 7 ∧
    (∀ w : World, Calls Tryd.prog 12 #[.int .i64 v, .int .i64 d] w fun e w' => e = .returned (.string f) ∧ Below w.heap.size w w') ∧
    (∀ w : World, Calls Tryd.prog 14 #[.int .i64 v, .int .i64 d] w fun e w' => e = .returned (.string f) ∧ Below w.heap.size w w') ∧
    (∀ w : World, Calls Tryd.prog 13 #[.string (f ++ T), .int .i64 d] w fun e w' => e = .returned (.tuple #[.int .i64 y, .bool is]) ∧ w = w') ∧ FWay v d y f is := by
  have hem : (ByteArray.empty ++ T).size ≤ 1048576 := by rw [ByteArray.size_append]; show 0 + T.size ≤ _; omega
  by_cases h : d < 1 ∨ 7 < d ∨ v < 0
  · obtain ⟨y, b, hy⟩ := df_any (ByteArray.empty ++ T) d hem
    exact ⟨ByteArray.empty, y, b, by decide, fun w => ef_no v d w h, fun w => sf_no v d w h, hy, .inr empty_yes⟩
  · obtain ⟨m, rfl⟩ := Int.eq_ofNat_of_zero_le (show 0 ≤ v by omega)
    obtain ⟨g, rfl⟩ := Int.eq_ofNat_of_zero_le (show 0 ≤ d by omega)
    by_cases hq : q m g = 0
    · have hs := fun w => sf_yes m g w (by omega) (by omega) (by omega)
      have he := fun w => ef_fits m g w (by omega) (by omega) (by omega) hq
      rw [fixS_fits hq] at hs he
      have hsz : (lowS m g ++ T).size = g + T.size := by rw [ByteArray.size_append, lowS_size]
      have hd := fun w => df_yes (lowS m g ++ T) (g : Int) w (by unfold maxLen; omega) (by omega) (by omega) (by omega)
      refine ⟨lowS m g, (m : Int), true, by rw [lowS_size]; omega, he, hs, fun w => (hd w).mono fun e w' h => ⟨?_, h.2⟩, .inl ⟨empty_no _ (by rw [lowS_size]; omega), rfl, rfl, by rw [lowS_size]⟩⟩
      rw [h.1]
      unfold FAns
      rw [Int.toNat_natCast, low_back m g hq T]
    · obtain ⟨y, b, hy⟩ := df_any (ByteArray.empty ++ T) (g : Int) hem
      have hs := fun w => sf_yes m g w (by omega) (by omega) (by omega)
      have he := fun w => ef_big m g w (by omega) (by omega) (by omega) hq
      rw [fixS_big hq] at hs he
      exact ⟨ByteArray.empty, y, b, by decide, he, hs, hy, .inr empty_yes⟩
/-- The three ways of the number's part. -/
def PWay (v z : Int) (good : Bool) : Prop :=
  (good = true ∧ v = z ∧ -1000000000 < v ∧ v < 1000000000) ∨ (good = false ∧ v ≤ -1000000000) ∨ (good = false ∧ -1000000000 < v ∧ 1000000000 ≤ v)
theorem ppart (v : Int) (v0 : -9223372036854775808 ≤ v) (v1 : v ≤ 9223372036854775807) : ∃ (z : Int) (good : Bool),
    (∀ w : World, Facts w → Calls Tryd.prog 18 #[.string (S (Lib.itoa v))] w fun e w' => e = .returned (.tuple #[.int .i64 z, .bool good]) ∧ Below w.heap.size w w') ∧ PWay v z good := by
  by_cases h : v < -999999999 ∨ 999999999 < v
  · have hlen : (S (Lib.itoa v)).size ≤ 1048576 := by
      have := Lib.itoa_length_le v v0 v1
      show ((Lib.itoa v).toArray).size ≤ _
      rw [List.size_toArray]; omega
    refine ⟨0, false, fun w hw => impl_not _ w hlen (num_none v h) hw.1 hw.2.1 hw.2.2, ?_⟩
    by_cases h0 : v ≤ -1000000000
    · exact .inr (.inl ⟨rfl, h0⟩)
    · exact .inr (.inr ⟨rfl, by omega, by omega⟩)
  · exact ⟨v, true, fun w hw => impl_num _ v w (num_self v (by omega) (by omega)) hw.1, .inl ⟨rfl, rfl, by omega, by omega⟩⟩
theorem code_later {w w' : World} {a : Option Addr} {len : Nat} (h : CodeAt w w.heap.size a len) (hb : Below w.heap.size w w') : CodeAt w' w'.heap.size a len := by
  intro j hj
  obtain ⟨cb, off, z, h1, h2, h3, h4, h5⟩ := (h.below (Nat.le_refl _) hb) j hj
  exact ⟨cb, off, z, h1, Nat.lt_of_lt_of_le h2 hb.size, h3, h4, h5⟩
theorem dh_back (T : ByteArray) (hT : T.size ≤ 40) (w : World) : Calls Tryd.prog 16 #[.string (hexS T)] w fun e w' => e = .returned (.tuple #[.string T, .bool true]) ∧ Below w.heap.size w w' := by
  have h := dh_good (hexS T) w (by rw [hexS_size]; omega) (by rw [hexS_size]; omega) (hexS_digits T)
  rw [unS_hexS] at h
  exact h
set_option maxHeartbeats 8000000 in
set_option maxRecDepth 100000 in
theorem core (a : Option Addr) (len cap : Nat) (w : World) (hl : len ≤ 1048576) (hcode : CodeAt w w.heap.size a len) (hF : Facts w) :
    Calls Tryd.prog 3 #[.slice a len cap] w fun e w' => e = .returned (.bool true) ∧ Below w.heap.size w w' := by
  have HC := Lib.hid hcode
  have HF := Lib.hid hF
  clear hcode hF
  have BIG := Lib.hid (fun W => big_no a len cap W hl)
  go_enter Tryd.func3, Tryd.ntmps3
  go_wp2_with fail
  refine (BIG.out w).mono ?_
  rintro e w' ⟨rfl, rfl⟩
  clear BIG
  go_wp2_with fail
  refine (drawNum a len cap _ hl HC.out).mono ?_
  rintro e W1 ⟨n, rfl, n0, n1, hb1⟩
  have B1 := Lib.hid hb1
  clear hb1
  go_wp2_with fail
  refine (drawText a len cap _ hl (code_later HC.out B1.out)).mono ?_
  rintro e W2 ⟨T, rfl, hT, hb2⟩
  have B2 := Lib.hid (B1.out.trans (hb2.mono B1.out.size))
  clear hb2
  obtain ⟨s, x, k, hs7, hev, hdv, hway⟩ := vpart n T hT
  have EV := Lib.hid hev
  have DV := Lib.hid hdv
  have EH := Lib.hid (fun W => eh_all T W (by omega))
  have DH := Lib.hid (fun W => dh_back T hT W)
  have HS := hexS_size T
  have HSZ := Lib.hid HS
  have hlen2 : (((hexS T).size : Int) == 2 * (T.size : Int)) = true := by rw [HS]; simp
  clear hev hdv HS
  go_wp2_with fail
  refine (EV.out _).mono ?_
  rintro e W3 ⟨rfl, hb3⟩
  have B3 := Lib.hid (B2.out.trans (hb3.mono B2.out.size))
  clear hb3
  go_wp2_with fail
  refine (DV.out _).mono ?_
  rintro e W4 ⟨rfl, hb4⟩
  have B4 := Lib.hid (B3.out.trans (hb4.mono B3.out.size))
  clear hb4
  rcases hway with ⟨⟨e1, rfl, rfl⟩, e4, e5⟩ | ⟨e1, e4⟩ | ⟨e1, e4, e5⟩
  · have d1 : decide ((0 : Int) ≤ x) = true := decide_eq_true e4
    have d2 : decide (x ≤ (562949953421311 : Int)) = true := decide_eq_true e5
    go_wp2_with fail
    refine (drawPair a len cap _ hl (code_later HC.out B4.out)).mono ?_
    rintro e W5 ⟨v, d, rfl, v0, v1, d0, d1, hb5⟩
    have B5 := Lib.hid (B4.out.trans (hb5.mono B4.out.size))
    clear hb5
    obtain ⟨f, y, is, hf7, hef, hsf, hdf, fway⟩ := fpart v d T hT v0 v1
    obtain ⟨z, good, hpi, pway⟩ := ppart v v0 v1
    have EF := Lib.hid hef
    have SF := Lib.hid hsf
    have DF := Lib.hid hdf
    have PI := Lib.hid hpi
    have pway := Lib.hid pway
    have FI := Lib.hid (fun W hW => impl_fmt v W v0 v1 hW)
    have SI := Lib.hid (fun W => spec_fmt v W v0 v1)
    clear hef hsf hdf hpi
    go_wp2_with fail
    refine (EF.out _).mono ?_
    rintro e W6 ⟨rfl, hb6⟩
    have B6 := Lib.hid (B5.out.trans (hb6.mono B5.out.size))
    clear hb6
    go_wp2_with fail
    refine (DF.out _).mono ?_
    rintro e w' ⟨rfl, rfl⟩
    rcases fway with ⟨f1, rfl, rfl, f4⟩ | f1
    · have f5 : (!f.toList.isEmpty) = true := by rw [f1]; rfl
      have f6 : ((f.size : Int) != d) = false := by simpa using f4
      have F4 := Lib.hid f4
      clear f4
      go_wp2_with fail
      refine (SF.out _).mono ?_
      rintro e W7 ⟨rfl, hb7⟩
      have B7 := Lib.hid (B6.out.trans (hb7.mono B6.out.size))
      clear hb7
      go_wp2_with fail
      refine (EH.out _).mono ?_
      rintro e W8 ⟨rfl, hb8⟩
      have B8 := Lib.hid (B7.out.trans (hb8.mono B7.out.size))
      clear hb8
      go_wp2_with fail
      refine (DH.out _).mono ?_
      rintro e W9 ⟨rfl, hb9⟩
      have B9 := Lib.hid (B8.out.trans (hb9.mono B8.out.size))
      clear hb9
      go_wp2_with fail
      refine (FI.out _ (HF.out.below B9.out).1).mono ?_
      rintro e W10 ⟨rfl, hb10⟩
      have B10 := Lib.hid (B9.out.trans (hb10.mono B9.out.size))
      clear hb10
      go_wp2_with fail
      refine (PI.out _ (HF.out.below B10.out)).mono ?_
      rintro e W11 ⟨rfl, hb11⟩
      have B11 := Lib.hid (B10.out.trans (hb11.mono B10.out.size))
      clear hb11
      rcases pway.out with ⟨rfl, rfl, p1, p2⟩ | ⟨rfl, p1⟩ | ⟨rfl, p1, p2⟩
      · have q1 : decide ((-1000000000 : Int) < v) = true := decide_eq_true p1
        have q2 : decide (v < (1000000000 : Int)) = true := decide_eq_true p2
        go_wp2_with fail
        refine (SI.out _).mono ?_
        rintro e W12 ⟨rfl, hb12⟩
        have B12 := Lib.hid (B11.out.trans (hb12.mono B11.out.size))
        clear hb12
        go_wp2_with fail
        go_ret
        exact ⟨rfl, B12.out⟩
      · have q1 : decide ((-1000000000 : Int) < v) = false := decide_eq_false (by omega)
        go_wp2_with fail
        refine (SI.out _).mono ?_
        rintro e W12 ⟨rfl, hb12⟩
        have B12 := Lib.hid (B11.out.trans (hb12.mono B11.out.size))
        clear hb12
        go_wp2_with fail
        go_ret
        exact ⟨rfl, B12.out⟩
      · have q1 : decide ((-1000000000 : Int) < v) = true := decide_eq_true p1
        have q2 : decide (v < (1000000000 : Int)) = false := decide_eq_false (by omega)
        go_wp2_with fail
        refine (SI.out _).mono ?_
        rintro e W12 ⟨rfl, hb12⟩
        have B12 := Lib.hid (B11.out.trans (hb12.mono B11.out.size))
        clear hb12
        go_wp2_with fail
        go_ret
        exact ⟨rfl, B12.out⟩
    · have f5 : (!f.toList.isEmpty) = false := by rw [f1]; rfl
      go_wp2_with fail
      refine (SF.out _).mono ?_
      rintro e W7 ⟨rfl, hb7⟩
      have B7 := Lib.hid (B6.out.trans (hb7.mono B6.out.size))
      clear hb7
      go_wp2_with fail
      refine (EH.out _).mono ?_
      rintro e W8 ⟨rfl, hb8⟩
      have B8 := Lib.hid (B7.out.trans (hb8.mono B7.out.size))
      clear hb8
      go_wp2_with fail
      refine (DH.out _).mono ?_
      rintro e W9 ⟨rfl, hb9⟩
      have B9 := Lib.hid (B8.out.trans (hb9.mono B8.out.size))
      clear hb9
      go_wp2_with fail
      refine (FI.out _ (HF.out.below B9.out).1).mono ?_
      rintro e W10 ⟨rfl, hb10⟩
      have B10 := Lib.hid (B9.out.trans (hb10.mono B9.out.size))
      clear hb10
      go_wp2_with fail
      refine (PI.out _ (HF.out.below B10.out)).mono ?_
      rintro e W11 ⟨rfl, hb11⟩
      have B11 := Lib.hid (B10.out.trans (hb11.mono B10.out.size))
      clear hb11
      rcases pway.out with ⟨rfl, rfl, p1, p2⟩ | ⟨rfl, p1⟩ | ⟨rfl, p1, p2⟩
      · have q1 : decide ((-1000000000 : Int) < v) = true := decide_eq_true p1
        have q2 : decide (v < (1000000000 : Int)) = true := decide_eq_true p2
        go_wp2_with fail
        refine (SI.out _).mono ?_
        rintro e W12 ⟨rfl, hb12⟩
        have B12 := Lib.hid (B11.out.trans (hb12.mono B11.out.size))
        clear hb12
        go_wp2_with fail
        go_ret
        exact ⟨rfl, B12.out⟩
      · have q1 : decide ((-1000000000 : Int) < v) = false := decide_eq_false (by omega)
        go_wp2_with fail
        refine (SI.out _).mono ?_
        rintro e W12 ⟨rfl, hb12⟩
        have B12 := Lib.hid (B11.out.trans (hb12.mono B11.out.size))
        clear hb12
        go_wp2_with fail
        go_ret
        exact ⟨rfl, B12.out⟩
      · have q1 : decide ((-1000000000 : Int) < v) = true := decide_eq_true p1
        have q2 : decide (v < (1000000000 : Int)) = false := decide_eq_false (by omega)
        go_wp2_with fail
        refine (SI.out _).mono ?_
        rintro e W12 ⟨rfl, hb12⟩
        have B12 := Lib.hid (B11.out.trans (hb12.mono B11.out.size))
        clear hb12
        go_wp2_with fail
        go_ret
        exact ⟨rfl, B12.out⟩
  · have d1 : decide ((0 : Int) ≤ n) = false := decide_eq_false (by omega)
    go_wp2_with fail
    refine (drawPair a len cap _ hl (code_later HC.out B4.out)).mono ?_
    rintro e W5 ⟨v, d, rfl, v0, v1, d0, d1, hb5⟩
    have B5 := Lib.hid (B4.out.trans (hb5.mono B4.out.size))
    clear hb5
    obtain ⟨f, y, is, hf7, hef, hsf, hdf, fway⟩ := fpart v d T hT v0 v1
    obtain ⟨z, good, hpi, pway⟩ := ppart v v0 v1
    have EF := Lib.hid hef
    have SF := Lib.hid hsf
    have DF := Lib.hid hdf
    have PI := Lib.hid hpi
    have pway := Lib.hid pway
    have FI := Lib.hid (fun W hW => impl_fmt v W v0 v1 hW)
    have SI := Lib.hid (fun W => spec_fmt v W v0 v1)
    clear hef hsf hdf hpi
    go_wp2_with fail
    refine (EF.out _).mono ?_
    rintro e W6 ⟨rfl, hb6⟩
    have B6 := Lib.hid (B5.out.trans (hb6.mono B5.out.size))
    clear hb6
    go_wp2_with fail
    refine (DF.out _).mono ?_
    rintro e w' ⟨rfl, rfl⟩
    rcases fway with ⟨f1, rfl, rfl, f4⟩ | f1
    · have f5 : (!f.toList.isEmpty) = true := by rw [f1]; rfl
      have f6 : ((f.size : Int) != d) = false := by simpa using f4
      have F4 := Lib.hid f4
      clear f4
      go_wp2_with fail
      refine (SF.out _).mono ?_
      rintro e W7 ⟨rfl, hb7⟩
      have B7 := Lib.hid (B6.out.trans (hb7.mono B6.out.size))
      clear hb7
      go_wp2_with fail
      refine (EH.out _).mono ?_
      rintro e W8 ⟨rfl, hb8⟩
      have B8 := Lib.hid (B7.out.trans (hb8.mono B7.out.size))
      clear hb8
      go_wp2_with fail
      refine (DH.out _).mono ?_
      rintro e W9 ⟨rfl, hb9⟩
      have B9 := Lib.hid (B8.out.trans (hb9.mono B8.out.size))
      clear hb9
      go_wp2_with fail
      refine (FI.out _ (HF.out.below B9.out).1).mono ?_
      rintro e W10 ⟨rfl, hb10⟩
      have B10 := Lib.hid (B9.out.trans (hb10.mono B9.out.size))
      clear hb10
      go_wp2_with fail
      refine (PI.out _ (HF.out.below B10.out)).mono ?_
      rintro e W11 ⟨rfl, hb11⟩
      have B11 := Lib.hid (B10.out.trans (hb11.mono B10.out.size))
      clear hb11
      rcases pway.out with ⟨rfl, rfl, p1, p2⟩ | ⟨rfl, p1⟩ | ⟨rfl, p1, p2⟩
      · have q1 : decide ((-1000000000 : Int) < v) = true := decide_eq_true p1
        have q2 : decide (v < (1000000000 : Int)) = true := decide_eq_true p2
        go_wp2_with fail
        refine (SI.out _).mono ?_
        rintro e W12 ⟨rfl, hb12⟩
        have B12 := Lib.hid (B11.out.trans (hb12.mono B11.out.size))
        clear hb12
        go_wp2_with fail
        go_ret
        exact ⟨rfl, B12.out⟩
      · have q1 : decide ((-1000000000 : Int) < v) = false := decide_eq_false (by omega)
        go_wp2_with fail
        refine (SI.out _).mono ?_
        rintro e W12 ⟨rfl, hb12⟩
        have B12 := Lib.hid (B11.out.trans (hb12.mono B11.out.size))
        clear hb12
        go_wp2_with fail
        go_ret
        exact ⟨rfl, B12.out⟩
      · have q1 : decide ((-1000000000 : Int) < v) = true := decide_eq_true p1
        have q2 : decide (v < (1000000000 : Int)) = false := decide_eq_false (by omega)
        go_wp2_with fail
        refine (SI.out _).mono ?_
        rintro e W12 ⟨rfl, hb12⟩
        have B12 := Lib.hid (B11.out.trans (hb12.mono B11.out.size))
        clear hb12
        go_wp2_with fail
        go_ret
        exact ⟨rfl, B12.out⟩
    · have f5 : (!f.toList.isEmpty) = false := by rw [f1]; rfl
      go_wp2_with fail
      refine (SF.out _).mono ?_
      rintro e W7 ⟨rfl, hb7⟩
      have B7 := Lib.hid (B6.out.trans (hb7.mono B6.out.size))
      clear hb7
      go_wp2_with fail
      refine (EH.out _).mono ?_
      rintro e W8 ⟨rfl, hb8⟩
      have B8 := Lib.hid (B7.out.trans (hb8.mono B7.out.size))
      clear hb8
      go_wp2_with fail
      refine (DH.out _).mono ?_
      rintro e W9 ⟨rfl, hb9⟩
      have B9 := Lib.hid (B8.out.trans (hb9.mono B8.out.size))
      clear hb9
      go_wp2_with fail
      refine (FI.out _ (HF.out.below B9.out).1).mono ?_
      rintro e W10 ⟨rfl, hb10⟩
      have B10 := Lib.hid (B9.out.trans (hb10.mono B9.out.size))
      clear hb10
      go_wp2_with fail
      refine (PI.out _ (HF.out.below B10.out)).mono ?_
      rintro e W11 ⟨rfl, hb11⟩
      have B11 := Lib.hid (B10.out.trans (hb11.mono B10.out.size))
      clear hb11
      rcases pway.out with ⟨rfl, rfl, p1, p2⟩ | ⟨rfl, p1⟩ | ⟨rfl, p1, p2⟩
      · have q1 : decide ((-1000000000 : Int) < v) = true := decide_eq_true p1
        have q2 : decide (v < (1000000000 : Int)) = true := decide_eq_true p2
        go_wp2_with fail
        refine (SI.out _).mono ?_
        rintro e W12 ⟨rfl, hb12⟩
        have B12 := Lib.hid (B11.out.trans (hb12.mono B11.out.size))
        clear hb12
        go_wp2_with fail
        go_ret
        exact ⟨rfl, B12.out⟩
      · have q1 : decide ((-1000000000 : Int) < v) = false := decide_eq_false (by omega)
        go_wp2_with fail
        refine (SI.out _).mono ?_
        rintro e W12 ⟨rfl, hb12⟩
        have B12 := Lib.hid (B11.out.trans (hb12.mono B11.out.size))
        clear hb12
        go_wp2_with fail
        go_ret
        exact ⟨rfl, B12.out⟩
      · have q1 : decide ((-1000000000 : Int) < v) = true := decide_eq_true p1
        have q2 : decide (v < (1000000000 : Int)) = false := decide_eq_false (by omega)
        go_wp2_with fail
        refine (SI.out _).mono ?_
        rintro e W12 ⟨rfl, hb12⟩
        have B12 := Lib.hid (B11.out.trans (hb12.mono B11.out.size))
        clear hb12
        go_wp2_with fail
        go_ret
        exact ⟨rfl, B12.out⟩
  · have d1 : decide ((0 : Int) ≤ n) = true := decide_eq_true e4
    have d2 : decide (n ≤ (562949953421311 : Int)) = false := decide_eq_false (by omega)
    go_wp2_with fail
    refine (drawPair a len cap _ hl (code_later HC.out B4.out)).mono ?_
    rintro e W5 ⟨v, d, rfl, v0, v1, d0, d1, hb5⟩
    have B5 := Lib.hid (B4.out.trans (hb5.mono B4.out.size))
    clear hb5
    obtain ⟨f, y, is, hf7, hef, hsf, hdf, fway⟩ := fpart v d T hT v0 v1
    obtain ⟨z, good, hpi, pway⟩ := ppart v v0 v1
    have EF := Lib.hid hef
    have SF := Lib.hid hsf
    have DF := Lib.hid hdf
    have PI := Lib.hid hpi
    have pway := Lib.hid pway
    have FI := Lib.hid (fun W hW => impl_fmt v W v0 v1 hW)
    have SI := Lib.hid (fun W => spec_fmt v W v0 v1)
    clear hef hsf hdf hpi
    go_wp2_with fail
    refine (EF.out _).mono ?_
    rintro e W6 ⟨rfl, hb6⟩
    have B6 := Lib.hid (B5.out.trans (hb6.mono B5.out.size))
    clear hb6
    go_wp2_with fail
    refine (DF.out _).mono ?_
    rintro e w' ⟨rfl, rfl⟩
    rcases fway with ⟨f1, rfl, rfl, f4⟩ | f1
    · have f5 : (!f.toList.isEmpty) = true := by rw [f1]; rfl
      have f6 : ((f.size : Int) != d) = false := by simpa using f4
      have F4 := Lib.hid f4
      clear f4
      go_wp2_with fail
      refine (SF.out _).mono ?_
      rintro e W7 ⟨rfl, hb7⟩
      have B7 := Lib.hid (B6.out.trans (hb7.mono B6.out.size))
      clear hb7
      go_wp2_with fail
      refine (EH.out _).mono ?_
      rintro e W8 ⟨rfl, hb8⟩
      have B8 := Lib.hid (B7.out.trans (hb8.mono B7.out.size))
      clear hb8
      go_wp2_with fail
      refine (DH.out _).mono ?_
      rintro e W9 ⟨rfl, hb9⟩
      have B9 := Lib.hid (B8.out.trans (hb9.mono B8.out.size))
      clear hb9
      go_wp2_with fail
      refine (FI.out _ (HF.out.below B9.out).1).mono ?_
      rintro e W10 ⟨rfl, hb10⟩
      have B10 := Lib.hid (B9.out.trans (hb10.mono B9.out.size))
      clear hb10
      go_wp2_with fail
      refine (PI.out _ (HF.out.below B10.out)).mono ?_
      rintro e W11 ⟨rfl, hb11⟩
      have B11 := Lib.hid (B10.out.trans (hb11.mono B10.out.size))
      clear hb11
      rcases pway.out with ⟨rfl, rfl, p1, p2⟩ | ⟨rfl, p1⟩ | ⟨rfl, p1, p2⟩
      · have q1 : decide ((-1000000000 : Int) < v) = true := decide_eq_true p1
        have q2 : decide (v < (1000000000 : Int)) = true := decide_eq_true p2
        go_wp2_with fail
        refine (SI.out _).mono ?_
        rintro e W12 ⟨rfl, hb12⟩
        have B12 := Lib.hid (B11.out.trans (hb12.mono B11.out.size))
        clear hb12
        go_wp2_with fail
        go_ret
        exact ⟨rfl, B12.out⟩
      · have q1 : decide ((-1000000000 : Int) < v) = false := decide_eq_false (by omega)
        go_wp2_with fail
        refine (SI.out _).mono ?_
        rintro e W12 ⟨rfl, hb12⟩
        have B12 := Lib.hid (B11.out.trans (hb12.mono B11.out.size))
        clear hb12
        go_wp2_with fail
        go_ret
        exact ⟨rfl, B12.out⟩
      · have q1 : decide ((-1000000000 : Int) < v) = true := decide_eq_true p1
        have q2 : decide (v < (1000000000 : Int)) = false := decide_eq_false (by omega)
        go_wp2_with fail
        refine (SI.out _).mono ?_
        rintro e W12 ⟨rfl, hb12⟩
        have B12 := Lib.hid (B11.out.trans (hb12.mono B11.out.size))
        clear hb12
        go_wp2_with fail
        go_ret
        exact ⟨rfl, B12.out⟩
    · have f5 : (!f.toList.isEmpty) = false := by rw [f1]; rfl
      go_wp2_with fail
      refine (SF.out _).mono ?_
      rintro e W7 ⟨rfl, hb7⟩
      have B7 := Lib.hid (B6.out.trans (hb7.mono B6.out.size))
      clear hb7
      go_wp2_with fail
      refine (EH.out _).mono ?_
      rintro e W8 ⟨rfl, hb8⟩
      have B8 := Lib.hid (B7.out.trans (hb8.mono B7.out.size))
      clear hb8
      go_wp2_with fail
      refine (DH.out _).mono ?_
      rintro e W9 ⟨rfl, hb9⟩
      have B9 := Lib.hid (B8.out.trans (hb9.mono B8.out.size))
      clear hb9
      go_wp2_with fail
      refine (FI.out _ (HF.out.below B9.out).1).mono ?_
      rintro e W10 ⟨rfl, hb10⟩
      have B10 := Lib.hid (B9.out.trans (hb10.mono B9.out.size))
      clear hb10
      go_wp2_with fail
      refine (PI.out _ (HF.out.below B10.out)).mono ?_
      rintro e W11 ⟨rfl, hb11⟩
      have B11 := Lib.hid (B10.out.trans (hb11.mono B10.out.size))
      clear hb11
      rcases pway.out with ⟨rfl, rfl, p1, p2⟩ | ⟨rfl, p1⟩ | ⟨rfl, p1, p2⟩
      · have q1 : decide ((-1000000000 : Int) < v) = true := decide_eq_true p1
        have q2 : decide (v < (1000000000 : Int)) = true := decide_eq_true p2
        go_wp2_with fail
        refine (SI.out _).mono ?_
        rintro e W12 ⟨rfl, hb12⟩
        have B12 := Lib.hid (B11.out.trans (hb12.mono B11.out.size))
        clear hb12
        go_wp2_with fail
        go_ret
        exact ⟨rfl, B12.out⟩
      · have q1 : decide ((-1000000000 : Int) < v) = false := decide_eq_false (by omega)
        go_wp2_with fail
        refine (SI.out _).mono ?_
        rintro e W12 ⟨rfl, hb12⟩
        have B12 := Lib.hid (B11.out.trans (hb12.mono B11.out.size))
        clear hb12
        go_wp2_with fail
        go_ret
        exact ⟨rfl, B12.out⟩
      · have q1 : decide ((-1000000000 : Int) < v) = true := decide_eq_true p1
        have q2 : decide (v < (1000000000 : Int)) = false := decide_eq_false (by omega)
        go_wp2_with fail
        refine (SI.out _).mono ?_
        rintro e W12 ⟨rfl, hb12⟩
        have B12 := Lib.hid (B11.out.trans (hb12.mono B11.out.size))
        clear hb12
        go_wp2_with fail
        go_ret
        exact ⟨rfl, B12.out⟩
end Go.Proofs.YtfjjpmpkjcopiaaDoor.core
