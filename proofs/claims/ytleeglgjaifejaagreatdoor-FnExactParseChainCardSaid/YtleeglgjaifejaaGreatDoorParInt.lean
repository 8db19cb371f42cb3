/- ParseInt of the model and of the program at every string of at most 1048576 bytes: the same answer, and nothing that was there is written. The program's leans on five variables of the library. -/
import Derived.Test.YtleeglgjaifejaaGreatDoorFmtInt
import Derived.Test.YtleeglgjaifejaaGreatDoorDig
import Derived.Test.YtleeglgjaifejaaGreatDoorAtoi
import Derived.Test.YtleeglgjaifejaaGreatDoorTabs
import Derived.WalkKit
import Derived.ProofKit
import Derived.OpenShut
import Derived.ShutString
import Derived.ChangeOld
import Derived.Below
import Derived.Lib.Hide
import Derived.Lib.AtoiErrMem
namespace Go.Proofs.YtleeglgjaifejaaGreatDoor.parInt
open Go.ChangeShapes Go.WideShapes Go.ChangeAt Go.RowKit
open Go.ChangeMaps (open_string shut_string)
open Go.Proofs.YtleeglgjaifejaaGreatDoor.fmtn Go.Proofs.YtleeglgjaifejaaGreatDoor.fmtInt Go.Proofs.YtleeglgjaifejaaGreatDoor.dig Go.Proofs.YtleeglgjaifejaaGreatDoor.tabs
set_option linter.unusedVariables false
def PNay : Ending := .returned (.tuple #[.int .i64 0, .bool false])
def PYes (n : Int) : Ending := .returned (.tuple #[.int .i64 n, .bool true])
set_option maxRecDepth 100000 in
theorem spec_num (s : ByteArray) (n : Int) (w : World) (h : Num s n) :
    Calls Tryz.prog 65 #[.string s] w fun e w' => e = PYes n ∧ Below w.heap.size w w' := by
  have hs10 := num_size h
  obtain ⟨hs0, hsign⟩ := num_head h
  have HP := Lib.hid (num_pf h)
  have hn := h.2
  have HE := Lib.hid (str_eq s n h.1)
  have HF := Lib.hid (fun W => spec_fmt n W (by omega) (by omega))
  have HSG := Lib.hid hsign
  clear h hsign
  go_enter Tryz.func65, Tryz.ntmps65
  go_wp2
  go_loop [4, 5, 6] (fun a k i => ∃ j : Nat, j ≤ s.size ∧ i = .int .i64 j ∧ a = .int .i64 ((pf (s.data.toList.take j)).1 : Nat) ∧ k = .int .i64 ((pf (s.data.toList.take j)).2 : Nat)) (fun _ _ i => s.size - (intOf i).toNat)
  case atStart => exact ⟨0, Nat.zero_le _, rfl, rfl, rfl⟩
  case round =>
    obtain ⟨j, hj, rfl, rfl, rfl⟩ := hrel
    obtain ⟨b1, b2, _⟩ := take_bd s j (by omega)
    by_cases hlt : j < s.size
    · have d1 : decide ((j : Int) < (s.size : Int)) = true := by simp; omega
      have d2 : decide ((j : Int) < 11) = true := by simp; omega
      have hc := s[j].toNat_lt
      by_cases hd : 48 ≤ s[j].toNat ∧ s[j].toNat ≤ 57
      · have HT := Lib.hid (take_yes s j hlt hd)
        obtain ⟨hd1, hd2⟩ := hd
        have d3 : decide ((48 : Int) ≤ ((s[j].toNat : Nat) : Int)) = true := by simp; omega
        have d4 : decide (((s[j].toNat : Nat) : Int) ≤ 57) = true := by simp; omega
        generalize (pf (s.data.toList.take j)).1 = v at *
        generalize (pf (s.data.toList.take j)).2 = k at *
        go_wp2
        go_round
        case rel => exact ⟨j + 1, by omega, by go_num, by rw [HT.out.1]; congr 1; omega, by rw [HT.out.2]; go_num⟩
        case measure => simp [intOf]; omega
      · have HT := Lib.hid (take_no s j hlt hd)
        by_cases h48 : 48 ≤ s[j].toNat
        · have d3 : decide ((48 : Int) ≤ ((s[j].toNat : Nat) : Int)) = true := by simp; omega
          have d4 : decide (((s[j].toNat : Nat) : Int) ≤ 57) = false := by simp; omega
          clear hd
          generalize (pf (s.data.toList.take j)).1 = v at *
          generalize (pf (s.data.toList.take j)).2 = k at *
          go_wp2
          go_round
          case rel => exact ⟨j + 1, by omega, by go_num, by rw [HT.out.1], by rw [HT.out.2]⟩
          case measure => simp [intOf]; omega
        · have d3 : decide ((48 : Int) ≤ ((s[j].toNat : Nat) : Int)) = false := by simp; omega
          clear hd
          generalize (pf (s.data.toList.take j)).1 = v at *
          generalize (pf (s.data.toList.take j)).2 = k at *
          go_wp2
          go_round
          case rel => exact ⟨j + 1, by omega, by go_num, by rw [HT.out.1], by rw [HT.out.2]⟩
          case measure => simp [intOf]; omega
    · obtain rfl : j = s.size := by omega
      have hfull : s.data.toList.take s.size = s.data.toList := List.take_of_length_le (by rw [Array.length_toList]; exact Nat.le_refl _)
      rw [hfull] at b1 b2 ⊢
      have hv := HP.out.1
      have hk := HP.out.2
      clear hfull HP
      generalize (pf s.data.toList).1 = v at *
      generalize (pf s.data.toList).2 = k at *
      have d1 : decide ((s.size : Int) < (s.size : Int)) = false := by simp
      have d2 : decide ((0 : Int) < (s.size : Int)) = true := by simp; omega
      have d3 : decide ((9 : Int) < (k : Int)) = false := by simp; omega
      have d4 : decide ((10 : Int) < (s.size : Int)) = false := by simp; omega
      have hne := HE.out
      by_cases hneg : n < 0
      · have h45 : (((s[0].toNat : Nat) : Int) == 45) = true := by have := HSG.out.2 hneg; simp; omega
        have HV := Lib.hid (show -(v : Int) = n by omega)
        rw [← HV.out] at HF hne
        clear hv hneg
        go_wp2_with (go_at_call 68; (with_reducible refine (HF.out _).mono ?_); rintro e W1 ⟨rfl, hb1⟩)
        go_ret2
        exact ⟨by rw [← HV.out]; rfl, hb1⟩
      · have h45 : (((s[0].toNat : Nat) : Int) == 45) = false := by
          have := HSG.out
          rw [beq_eq_false_iff_ne]
          intro e
          exact hneg (this.1 (by omega))
        have HV := Lib.hid (show (v : Int) = n by omega)
        rw [← HV.out] at HF hne
        clear hv hneg
        go_wp2_with (go_at_call 68; (with_reducible refine (HF.out _).mono ?_); rintro e W1 ⟨rfl, hb1⟩)
        go_ret2
        exact ⟨by rw [← HV.out]; rfl, hb1⟩
set_option maxRecDepth 100000 in
set_option maxHeartbeats 1000000 in
theorem spec_not (s : ByteArray) (w : World) (hs : s.size ≤ 1048576) (h : ∀ n, ¬ Num s n) :
    Calls Tryz.prog 65 #[.string s] w fun e w' => e = PNay ∧ Below w.heap.size w w' := by
  have HN := Lib.hid h
  clear h
  go_enter Tryz.func65, Tryz.ntmps65
  go_wp2
  go_loop [4, 5, 6] (fun a k i => ∃ j : Nat, j ≤ s.size ∧ j ≤ 11 ∧ i = .int .i64 j ∧ a = .int .i64 ((pf (s.data.toList.take j)).1 : Nat) ∧ k = .int .i64 ((pf (s.data.toList.take j)).2 : Nat)) (fun _ _ i => s.size - (intOf i).toNat)
  case atStart => exact ⟨0, Nat.zero_le _, by omega, rfl, rfl, rfl⟩
  case round =>
    obtain ⟨j, hj, hj11, rfl, rfl, rfl⟩ := hrel
    obtain ⟨b1, b2, b3⟩ := take_bd s j hj11
    by_cases hlt : j < s.size ∧ j < 11
    · obtain ⟨hlt, hlt11⟩ := hlt
      have d1 : decide ((j : Int) < (s.size : Int)) = true := decide_eq_true (by omega)
      have d2 : decide ((j : Int) < 11) = true := decide_eq_true (by omega)
      clear b3
      have hc := s[j].toNat_lt
      by_cases hd : 48 ≤ s[j].toNat ∧ s[j].toNat ≤ 57
      · have HT := Lib.hid (take_yes s j hlt hd)
        obtain ⟨hd1, hd2⟩ := hd
        have d3 : decide ((48 : Int) ≤ ((s[j].toNat : Nat) : Int)) = true := by simp; omega
        have d4 : decide (((s[j].toNat : Nat) : Int) ≤ 57) = true := by simp; omega
        generalize (pf (s.data.toList.take j)).1 = v at *
        generalize (pf (s.data.toList.take j)).2 = k at *
        go_wp2
        go_round
        case rel => exact ⟨j + 1, by omega, by omega, by go_num, by rw [HT.out.1]; congr 1; omega, by rw [HT.out.2]; go_num⟩
        case measure => simp [intOf]; omega
      · have HT := Lib.hid (take_no s j hlt hd)
        by_cases h48 : 48 ≤ s[j].toNat
        · have d3 : decide ((48 : Int) ≤ ((s[j].toNat : Nat) : Int)) = true := by simp; omega
          have d4 : decide (((s[j].toNat : Nat) : Int) ≤ 57) = false := by simp; omega
          clear hd
          generalize (pf (s.data.toList.take j)).1 = v at *
          generalize (pf (s.data.toList.take j)).2 = k at *
          go_wp2
          go_round
          case rel => exact ⟨j + 1, by omega, by omega, by go_num, by rw [HT.out.1], by rw [HT.out.2]⟩
          case measure => simp [intOf]; omega
        · have d3 : decide ((48 : Int) ≤ ((s[j].toNat : Nat) : Int)) = false := by simp; omega
          clear hd
          generalize (pf (s.data.toList.take j)).1 = v at *
          generalize (pf (s.data.toList.take j)).2 = k at *
          go_wp2
          go_round
          case rel => exact ⟨j + 1, by omega, by omega, by go_num, by rw [HT.out.1], by rw [HT.out.2]⟩
          case measure => simp [intOf]; omega
    · have hex : ((s.size : Int) ≤ (j : Int) ∧ decide ((j : Int) < (s.size : Int)) = false) ∨ (((j : Int) < (s.size : Int) ∧ (11 : Int) ≤ (j : Int)) ∧ decide ((j : Int) < (s.size : Int)) = true ∧ decide ((j : Int) < 11) = false) := by
        by_cases hjs : j < s.size
        · exact .inr ⟨by omega, decide_eq_true (by omega), decide_eq_false (by omega)⟩
        · exact .inl ⟨by omega, decide_eq_false (by omega)⟩
      clear hlt
      generalize (pf (s.data.toList.take j)).1 = v at *
      generalize (pf (s.data.toList.take j)).2 = k at *
      rcases hex with ⟨dj, d1⟩ | ⟨⟨dj, dj11⟩, d1, d2⟩
      all_goals
        by_cases hs0 : 0 < s.size
        · have d3 : decide ((0 : Int) < (s.size : Int)) = true := decide_eq_true (by omega)
          by_cases h45' : s[0].toNat = 45
          · have h45 : (((s[0].toNat : Nat) : Int) == 45) = true := by simp; omega
            clear h45'
            by_cases hk9 : 9 < k
            · have d5 : decide ((9 : Int) < (k : Int)) = true := decide_eq_true (by omega)
              go_wp2
              go_ret2
              exact ⟨rfl, Below.refl _ _⟩
            · have d5 : decide ((9 : Int) < (k : Int)) = false := decide_eq_false (by omega)
              by_cases hl10 : 10 < s.size
              · have d6 : decide ((10 : Int) < (s.size : Int)) = true := decide_eq_true (by omega)
                go_wp2
                go_ret2
                exact ⟨rfl, Below.refl _ _⟩
              · have d6 : decide ((10 : Int) < (s.size : Int)) = false := decide_eq_false (by omega)
                have hv9 := b3 (by omega)
                have HF := Lib.hid (fun W => spec_fmt (-(v : Int)) W (by omega) (by omega))
                have hne := str_ne s (-(v : Int)) (fun e => HN.out _ ⟨e, by omega, by omega⟩)
                go_wp2_with (go_at_call 68; (with_reducible refine (HF.out _).mono ?_); rintro e W1 ⟨rfl, hb1⟩)
                go_ret2
                exact ⟨rfl, hb1⟩
          · have h45 : (((s[0].toNat : Nat) : Int) == 45) = false := by simp; omega
            clear h45'
            by_cases hk9 : 9 < k
            · have d5 : decide ((9 : Int) < (k : Int)) = true := decide_eq_true (by omega)
              go_wp2
              go_ret2
              exact ⟨rfl, Below.refl _ _⟩
            · have d5 : decide ((9 : Int) < (k : Int)) = false := decide_eq_false (by omega)
              by_cases hl10 : 10 < s.size
              · have d6 : decide ((10 : Int) < (s.size : Int)) = true := decide_eq_true (by omega)
                go_wp2
                go_ret2
                exact ⟨rfl, Below.refl _ _⟩
              · have d6 : decide ((10 : Int) < (s.size : Int)) = false := decide_eq_false (by omega)
                have hv9 := b3 (by omega)
                have HF := Lib.hid (fun W => spec_fmt ((v : Int)) W (by omega) (by omega))
                have hne := str_ne s ((v : Int)) (fun e => HN.out _ ⟨e, by omega, by omega⟩)
                go_wp2_with (go_at_call 68; (with_reducible refine (HF.out _).mono ?_); rintro e W1 ⟨rfl, hb1⟩)
                go_ret2
                exact ⟨rfl, hb1⟩
        · have d3 : decide ((0 : Int) < (s.size : Int)) = false := decide_eq_false (by omega)
          by_cases hk9 : 9 < k
          · have d5 : decide ((9 : Int) < (k : Int)) = true := decide_eq_true (by omega)
            go_wp2
            go_ret2
            exact ⟨rfl, Below.refl _ _⟩
          · have d5 : decide ((9 : Int) < (k : Int)) = false := decide_eq_false (by omega)
            · have d6 : decide ((10 : Int) < (s.size : Int)) = false := decide_eq_false (by omega)
              have hv9 := b3 (by omega)
              have HF := Lib.hid (fun W => spec_fmt ((v : Int)) W (by omega) (by omega))
              have hne := str_ne s ((v : Int)) (fun e => HN.out _ ⟨e, by omega, by omega⟩)
              go_wp2_with (go_at_call 68; (with_reducible refine (HF.out _).mono ?_); rintro e W1 ⟨rfl, hb1⟩)
              go_ret2
              exact ⟨rfl, hb1⟩
theorem atoi_ok (s : ByteArray) (v : Int) (w : World) (hs : s.size ≤ 1048576) (h : Lib.atoiAll s.data.toList = .ok v) : Calls Tryz.prog 64 #[.string s] w fun e w' => e = .returned (.tuple #[.int .i64 v, .nilIface]) ∧ Below w.heap.size w w' := by
  refine (Tryz.strconv_Atoi_ok s (by omega) v h w).mono ?_
  rintro e w' ⟨rfl, rfl | ⟨t, rfl⟩⟩
  · exact ⟨rfl, Below.refl _ _⟩
  · exact ⟨rfl, Lib.bytesWorld_below w 5 t⟩
theorem atoi_err (s : ByteArray) (w : World) (hs : s.size ≤ 1048576) (h : ∀ v, Lib.atoiAll s.data.toList ≠ .ok v)
    (hS : ∃ tp p, w.var? Tryz.prog "strconv.ErrSyntax" = some #[.iface tp p]) (hR : ∃ tp p, w.var? Tryz.prog "strconv.ErrRange" = some #[.iface tp p]) :
    Calls Tryz.prog 64 #[.string s] w fun e w' => ∃ (x : Int) (T : TypeId) (N : Nat), e = .returned (.tuple #[.int .i64 x, .iface T (.pointer (some ⟨N, 0, none⟩))]) ∧ Below w.heap.size w w' := by
  obtain ⟨tp, p, hS⟩ := hS
  obtain ⟨tr, r, hR⟩ := hR
  cases e : Lib.atoiAll s.data.toList with
  | ok v => exact absurd e (h v)
  | «syntax» =>
    refine (Tryz.strconv_Atoi_syntax_var s (by omega) e tp p w hS).mono ?_
    rintro e w' ⟨N, rfl, -, -, hb⟩
    exact ⟨_, _, _, rfl, hb⟩
  | range =>
    refine (Tryz.strconv_Atoi_range_var s (by omega) e tr r w hR).mono ?_
    rintro e w' ⟨N, rfl, -, -, hb⟩
    exact ⟨_, _, _, rfl, hb⟩
theorem impl_num (s : ByteArray) (n : Int) (w : World) (h : Num s n) (htab : Lib.TabIs Tryz.prog w "internal/strconv.uint64pow10" .u64 Lib.pow10Tab) :
    Calls Tryz.prog 38 #[.string s] w fun e w' => e = PYes n ∧ Below w.heap.size w w' := by
  have hs10 := num_size h
  have HA := Lib.hid (fun W => atoi_ok s n W (by omega) (by rw [h.1]; exact atoiAll_itoa n h.2.1 h.2.2))
  have hn := h.2
  have hne := str_eq s n h.1
  have HI := Lib.hid (fun W hW => impl_fmt n W (by omega) (by omega) hW)
  have HT := Lib.hid htab
  have d1 : decide (n < -999999999) = false := decide_eq_false (by omega)
  have d2 : decide ((999999999 : Int) < n) = false := decide_eq_false (by omega)
  clear h htab
  go_enter Tryz.func38, Tryz.ntmps38
  go_wp2_with fail
  refine (HA.out _).mono ?_
  rintro e W1 ⟨rfl, hb1⟩
  go_wp2_with fail
  refine (HI.out _ (powTab_below HT.out hb1)).mono ?_
  rintro e W2 ⟨rfl, hb2⟩
  go_wp2_with fail
  go_ret2
  exact ⟨rfl, hb1.trans (hb2.mono hb1.size)⟩
theorem impl_not (s : ByteArray) (w : World) (hs : s.size ≤ 1048576) (h : ∀ n, ¬ Num s n) (htab : Lib.TabIs Tryz.prog w "internal/strconv.uint64pow10" .u64 Lib.pow10Tab)
    (hS : ∃ tp p, w.var? Tryz.prog "strconv.ErrSyntax" = some #[.iface tp p]) (hR : ∃ tp p, w.var? Tryz.prog "strconv.ErrRange" = some #[.iface tp p]) :
    Calls Tryz.prog 38 #[.string s] w fun e w' => e = PNay ∧ Below w.heap.size w w' := by
  have HT := Lib.hid htab
  by_cases hv : ∃ v, Lib.atoiAll s.data.toList = .ok v
  · obtain ⟨v, hv⟩ := hv
    have HA := Lib.hid (fun W => atoi_ok s v W hs hv)
    clear hv hS hR htab
    by_cases h1 : v < -999999999
    · have d1 : decide (v < -999999999) = true := decide_eq_true (by omega)
      clear h
      go_enter Tryz.func38, Tryz.ntmps38
      go_wp2_with fail
      refine (HA.out _).mono ?_
      rintro e W1 ⟨rfl, hb1⟩
      go_wp2_with fail
      go_ret2
      exact ⟨rfl, hb1⟩
    · have d1 : decide (v < -999999999) = false := decide_eq_false (by omega)
      by_cases h2 : 999999999 < v
      · have d2 : decide ((999999999 : Int) < v) = true := decide_eq_true (by omega)
        clear h
        go_enter Tryz.func38, Tryz.ntmps38
        go_wp2_with fail
        refine (HA.out _).mono ?_
        rintro e W1 ⟨rfl, hb1⟩
        go_wp2_with fail
        go_ret2
        exact ⟨rfl, hb1⟩
      · have d2 : decide ((999999999 : Int) < v) = false := decide_eq_false (by omega)
        have hne := str_ne s v (fun e => h v ⟨e, by omega, by omega⟩)
        have HI := Lib.hid (fun W hW => impl_fmt v W (by omega) (by omega) hW)
        clear h
        go_enter Tryz.func38, Tryz.ntmps38
        go_wp2_with fail
        refine (HA.out _).mono ?_
        rintro e W1 ⟨rfl, hb1⟩
        go_wp2_with fail
        refine (HI.out _ (powTab_below HT.out hb1)).mono ?_
        rintro e W2 ⟨rfl, hb2⟩
        go_wp2_with fail
        go_ret2
        exact ⟨rfl, hb1.trans (hb2.mono hb1.size)⟩
  · have HA := Lib.hid (atoi_err s w hs (fun v e => hv ⟨v, e⟩) hS hR)
    clear hv hS hR htab h
    go_enter Tryz.func38, Tryz.ntmps38
    go_wp2_with fail
    refine HA.out.mono ?_
    rintro e W1 ⟨x, T, N, rfl, hb1⟩
    go_wp2_with fail
    go_ret2
    exact ⟨rfl, hb1⟩
/-- Whatever the string: both functions answer alike. -/
theorem bothP (s : ByteArray) (hs : s.size ≤ 1048576) : ∃ (x : Int) (b : Bool), (∀ w : World,
    Calls Tryz.prog 65 #[.string s] w (fun e w' => e = .returned (.tuple #[.int .i64 x, .bool b]) ∧ Below w.heap.size w w')) ∧
    ∀ w : World, Lib.TabIs Tryz.prog w "internal/strconv.uint64pow10" .u64 Lib.pow10Tab → (∃ tp p, w.var? Tryz.prog "strconv.ErrSyntax" = some #[.iface tp p]) → (∃ tp p, w.var? Tryz.prog "strconv.ErrRange" = some #[.iface tp p]) →
    Calls Tryz.prog 38 #[.string s] w (fun e w' => e = .returned (.tuple #[.int .i64 x, .bool b]) ∧ Below w.heap.size w w') := by
  by_cases h : ∃ n, Num s n
  · obtain ⟨n, h⟩ := h
    exact ⟨n, true, fun w => spec_num s n w h, fun w ht _ _ => impl_num s n w h ht⟩
  · have h' : ∀ n, ¬ Num s n := fun n hn => h ⟨n, hn⟩
    exact ⟨0, false, fun w => spec_not s w hs h', fun w ht h1 h2 => impl_not s w hs h' ht h1 h2⟩
end Go.Proofs.YtleeglgjaifejaaGreatDoor.parInt
