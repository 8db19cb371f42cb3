/- DecodeHex of the model and of the program at every string of at most 1048576 bytes: the same answer, and nothing that was there is written. -/
import Derived.Test.YtfjjpmpkjcopiaaEncVarint
import Derived.Test.YtfjjpmpkjcopiaaUnhex
import Derived.WalkKit
import Derived.ProofKit
import Derived.OpenShut
import Derived.ShutString
import Derived.ChangeOld
import Derived.Below
import Derived.Lib.Hide
import Derived.Maps.AppendAt
namespace Go.Proofs.Ytfjjpmpkjcopiaa.decHex
open Go.ChangeShapes Go.WideShapes Go.ChangeAt Go.RowKit
open Go.ChangeMaps (open_string shut_string)
open Go.Proofs.Ytfjjpmpkjcopiaa.num Go.Proofs.Ytfjjpmpkjcopiaa.conv Go.Proofs.Ytfjjpmpkjcopiaa.var Go.Proofs.Ytfjjpmpkjcopiaa.encVarint Go.Proofs.Ytfjjpmpkjcopiaa.hex Go.Proofs.Ytfjjpmpkjcopiaa.unhex
set_option linter.unusedVariables false
theorem digit (x : Int) (k : Nat) (w : World) (he : x = (k : Int)) (h : k < 16) : Calls Try.prog 23 #[.int .i64 x] w fun e w' => e = .returned (.int .u8 ((hexd k : Nat) : Int)) ∧ w = w' := by
  have hx := fun W : World => index_lit (P := Try.prog) Try.underlying9 .i64 x k he h W
  clear he
  go_enter Try.func23, Try.ntmps23
  go_wp2
  go_ret
  exact ⟨rfl, rfl⟩
theorem from_yes (c : Nat) (w : World) (hc : IsHex c) : Calls Try.prog 24 #[.int .u8 (c : Int)] w fun e w' => e = .returned (.int .i64 ((hv c : Nat) : Int)) ∧ w = w' := by
  have hl := hv_lt hc
  have HH := Lib.hid hc
  clear hc
  go_enter Try.func24, Try.ntmps24
  go_wp2
  go_loop [3] (fun i => ∃ k : Nat, k ≤ hv c ∧ i = .int .i64 k) (fun i => (16 - intOf i).toNat)
  case atStart => exact ⟨0, by omega, rfl⟩
  case round =>
    obtain ⟨k, hk, rfl⟩ := hrel
    have hk16 : k < 16 := by omega
    have HD := Lib.hid (fun W => digit (k : Int) k W rfl hk16)
    by_cases hlt : k < hv c
    · have hne : (((hexd k : Nat) : Int) == (c : Int)) = false := by
        have := hexd_ne (c := c) hk16 (fun _ e => by omega)
        simp; omega
      go_wp2_with (go_at_call 23; refine (HD.out _).mono ?_; rintro e w' ⟨rfl, rfl⟩)
      go_round
      case rel => exact ⟨k + 1, by omega, by go_num⟩
      case measure => simp [intOf]; omega
    · obtain rfl : k = hv c := by omega
      have hne : (((hexd (hv c) : Nat) : Int) == (c : Int)) = true := by
        rw [hexd_hv HH.out]; simp
      go_wp2_with (go_at_call 23; refine (HD.out _).mono ?_; rintro e w' ⟨rfl, rfl⟩)
      go_ret
      exact ⟨rfl, rfl⟩
theorem from_no (c : Nat) (w : World) (hc : ¬ IsHex c) : Calls Try.prog 24 #[.int .u8 (c : Int)] w fun e w' => e = .returned (.int .i64 (-1)) ∧ w = w' := by
  have HH := Lib.hid hc
  clear hc
  go_enter Try.func24, Try.ntmps24
  go_wp2
  go_loop [3] (fun i => ∃ k : Nat, k ≤ 16 ∧ i = .int .i64 k) (fun i => (16 - intOf i).toNat)
  case atStart => exact ⟨0, by omega, rfl⟩
  case round =>
    obtain ⟨k, hk, rfl⟩ := hrel
    by_cases hlt : k < 16
    · have HD := Lib.hid (fun W => digit (k : Int) k W rfl hlt)
      have hne : (((hexd k : Nat) : Int) == (c : Int)) = false := by
        have := hexd_ne (c := c) hlt (fun h => absurd h HH.out)
        simp; omega
      go_wp2_with (go_at_call 23; refine (HD.out _).mono ?_; rintro e w' ⟨rfl, rfl⟩)
      go_round
      case rel => exact ⟨k + 1, by omega, by go_num⟩
      case measure => simp [intOf]; omega
    · obtain rfl : k = 16 := by omega
      go_wp2
      go_ret
      exact ⟨rfl, rfl⟩
theorem hv_yes (c : Nat) (w : World) (hc : IsHex c) : Calls Try.prog 25 #[.int .i32 (c : Int)] w fun e w' => e = .returned (.tuple #[.int .u8 ((hv c : Nat) : Int), .bool true]) ∧ w = w' := by
  rcases hc with h | h
  · have HV := Lib.hid (hv_low h.2)
    obtain ⟨h1, h2⟩ := h
    have d1 : decide ((48 : Int) ≤ (c : Int)) = true := by simp; omega
    have d2 : decide ((c : Int) ≤ 57) = true := by simp; omega
    go_enter Try.func25, Try.ntmps25
    go_wp2
    go_ret2
    exact ⟨by rw [HV.out]; simp; omega, rfl⟩
  · have HV := Lib.hid (hv_high (show ¬ c ≤ 57 by omega))
    obtain ⟨h1, h2⟩ := h
    have d0 : decide ((48 : Int) ≤ (c : Int)) = true := by simp; omega
    have d00 : decide ((c : Int) ≤ 57) = false := by simp; omega
    have d1 : decide ((97 : Int) ≤ (c : Int)) = true := by simp; omega
    have d2 : decide ((c : Int) ≤ 102) = true := by simp; omega
    go_enter Try.func25, Try.ntmps25
    go_wp2
    go_ret2
    exact ⟨by rw [HV.out]; simp; omega, rfl⟩
theorem hv_no (c : Nat) (w : World) (hc : ¬ IsHex c) : Calls Try.prog 25 #[.int .i32 (c : Int)] w fun e w' => e = .returned (.tuple #[.int .u8 0, .bool false]) ∧ w = w' := by
  unfold IsHex at hc
  rcases (by omega : c < 48 ∨ (57 < c ∧ c < 97) ∨ 102 < c) with h | ⟨h, h'⟩ | h
  · clear hc
    have d0 : decide ((48 : Int) ≤ (c : Int)) = false := by simp; omega
    have d1 : decide ((97 : Int) ≤ (c : Int)) = false := by simp; omega
    go_enter Try.func25, Try.ntmps25
    go_wp2
    go_ret2
    exact ⟨rfl, rfl⟩
  · clear hc
    have d0 : decide ((48 : Int) ≤ (c : Int)) = true := by simp; omega
    have d00 : decide ((c : Int) ≤ 57) = false := by simp; omega
    have d1 : decide ((97 : Int) ≤ (c : Int)) = false := by simp; omega
    go_enter Try.func25, Try.ntmps25
    go_wp2
    go_ret2
    exact ⟨rfl, rfl⟩
  · clear hc
    have d0 : decide ((48 : Int) ≤ (c : Int)) = true := by simp; omega
    have d00 : decide ((c : Int) ≤ 57) = false := by simp; omega
    have d1 : decide ((97 : Int) ≤ (c : Int)) = true := by simp; omega
    have d2 : decide ((c : Int) ≤ 102) = false := by simp; omega
    go_enter Try.func25, Try.ntmps25
    go_wp2
    go_ret2
    exact ⟨rfl, rfl⟩
def Nay : Ending := .returned (.tuple #[.string ByteArray.empty, .bool false])
theorem from_at (s : ByteArray) (x : Nat) (h : x < s.size) (hc : IsHex (bt s x)) (w : World) : Calls Try.prog 24 #[.int .u8 (((s[x]'h).toNat : Nat) : Int)] w fun e w' => e = .returned (.int .i64 ((hv (bt s x) : Nat) : Int)) ∧ w = w' := by
  have := from_yes (bt s x) w hc
  rw [bt_at s x h] at this ⊢
  exact this
theorem from_bad (s : ByteArray) (x : Nat) (h : x < s.size) (hc : ¬ IsHex (bt s x)) (w : World) : Calls Try.prog 24 #[.int .u8 (((s[x]'h).toNat : Nat) : Int)] w fun e w' => e = .returned (.int .i64 (-1)) ∧ w = w' := by
  have := from_no (bt s x) w hc
  rw [bt_at s x h] at this
  exact this
theorem hspec_odd (s : ByteArray) (w : World) (hs : s.size ≤ 1048576) (ho : s.size % 2 = 1) :
    Calls Try.prog 19 #[.string s] w fun e w' => e = Nay ∧ Below w.heap.size w w' := by
  have hd : ((s.size : Int) % 2 == 1) = true := by simp; omega
  clear ho
  go_enter Try.func19, Try.ntmps19
  go_wp2
  go_ret2
  exact ⟨rfl, (Below.refl _ _).alloc (Nat.le_refl _) _⟩
set_option maxRecDepth 100000 in
theorem hspec_good (s : ByteArray) (w : World) (hs : s.size ≤ 1048576) (ho : s.size % 2 = 0) (hg : ∀ k, k < s.size → IsHex (bt s k)) :
    Calls Try.prog 19 #[.string s] w fun e w' => e = .returned (.tuple #[.string (unS s), .bool true]) ∧ Below w.heap.size w w' := by
  obtain ⟨i0, hi, hz0, hz1, hz2⟩ := info_parts info5
  have HG := Lib.hid hg
  have HO := Lib.hid ho
  have hd : ((s.size : Int) % 2 == 1) = false := by simp; omega
  clear hg ho
  go_enter Try.func19, Try.ntmps19
  go_wp2
  clear hd
  go_loopw [4, 5] (fun v i wr => ∃ (k : Nat), 2 * k ≤ s.size ∧ i = .int .i64 ((2 * k : Nat) : Int) ∧ wr.ownsRow w.heap.size 5 1 v k ((unL s k).map byteV) ∧ Below w.heap.size w wr) (fun _ i _ => s.size - (intOf i).toNat)
  case atStart => exact ⟨0, by omega, rfl, World.ownsRow_made _ _ _ (Nat.le_refl _) (by decide) rfl, (Below.refl _ _).alloc (Nat.le_refl _) _⟩
  case round =>
    obtain ⟨k, hk, rfl, hown, hb⟩ := hrel
    obtain ⟨x, hx⟩ : ∃ x, x = 2 * k := ⟨_, rfl⟩
    have HX := Lib.hid hx
    rw [← hx]
    clear hx
    by_cases hlt : x < s.size
    · have hlt1 : x + 1 < s.size := by have := HX.out; have := HO.out; omega
      have h1 := HG.out x hlt
      have h2 := HG.out (x + 1) hlt1
      have l1 := hv_lt h1
      have l2 := hv_lt h2
      have HR := Lib.hid (un_row s k (by rw [← HX.out]; exact l1) (by rw [← HX.out]; exact l2))
      rw [← HX.out] at HR
      have HF1 := Lib.hid (fun W => from_at s x hlt h1 W)
      have HF2 := Lib.hid (fun W => from_at s (x + 1) hlt1 h2 W)
      clear h1 h2
      generalize hv (bt s x) = a at *
      generalize hv (bt s (x + 1)) = b at *
      have hmax : k + 1 ≤ maxLen := by have := HX.out; unfold maxLen; omega
      have hbyt : (k + 1) * 1 ≤ 140737488355328 := by have := HX.out; omega
      have hbase : ∀ o, w.heap.size ≤ (wr.alloc o).heap.size := fun o => by have := hb.size; simp; omega
      have da : decide ((a : Int) < 0) = false := by simp
      have db : decide ((b : Int) < 0) = false := by simp
      go_wp2_with (first | (go_at_call 24; (first | (with_reducible refine (HF1.out _).mono ?_) | (with_reducible refine (HF2.out _).mono ?_)); rintro e w' ⟨rfl, rfl⟩) | (at_builtin; refine wpList_append_own _ rfl _ _ 36 rfl w.heap.size 5 i0 (.int .u8 0) 1 1 Try.underlying36 hi hz0 hz1 hz2 rfl (by decide) _ _ _ rfl (hown.alloc _) ⟨_, 0, none⟩ 1 1 [.int .u8 (16 * (a : Int) + (b : Int))] rfl rfl (cell_one_new _ _ _) (one_oneCell _ _) hmax hbyt (hbase _) ?_))
      intro v' w1 hown' hgrow _
      rw [HR.out] at hown'
      have hb1 : Below w.heap.size w w1 := (hb.alloc hb.size _).grown hgrow (by have := hb.size; simp; omega) (fun k hk => (hown.lt k hk).1)
      go_wp2
      go_roundw
      case rel => exact ⟨k + 1, by have := HX.out; omega, by have := HX.out; go_num, hown', hb1⟩
      case measure => simp [intOf]; omega
    · have hkn : k = s.size / 2 := by have := HX.out; have := HO.out; omega
      have hcv := owned_string Try.underlying36 Try.underlying5 Try.underlying9 (unL_length s k) hown
      have HC : (⟨(unL s k).toArray⟩ : ByteArray) = unS s := by unfold unS; rw [← hkn]
      rw [HC] at hcv
      clear hown HC hkn
      go_wp2
      go_ret2
      exact ⟨rfl, hb⟩
set_option maxRecDepth 100000 in
theorem hspec_bad (s : ByteArray) (i : Nat) (w : World) (hs : s.size ≤ 1048576) (ho : s.size % 2 = 0) (hi : i < s.size) (hbad : ¬ IsHex (bt s i)) (hg : ∀ k, k < i → IsHex (bt s k)) :
    Calls Try.prog 19 #[.string s] w fun e w' => e = Nay ∧ Below w.heap.size w w' := by
  obtain ⟨i0, hi5, hz0, hz1, hz2⟩ := info_parts info5
  have HG := Lib.hid hg
  have HO := Lib.hid ho
  have HB := Lib.hid hbad
  have hd : ((s.size : Int) % 2 == 1) = false := by simp; omega
  clear hg ho hbad
  go_enter Try.func19, Try.ntmps19
  go_wp2
  clear hd
  go_loopw [4, 5] (fun v j wr => ∃ (k : Nat), 2 * k ≤ i ∧ j = .int .i64 ((2 * k : Nat) : Int) ∧ wr.ownsRow w.heap.size 5 1 v k ((unL s k).map byteV) ∧ Below w.heap.size w wr) (fun _ j _ => s.size - (intOf j).toNat)
  case atStart => exact ⟨0, by omega, rfl, World.ownsRow_made _ _ _ (Nat.le_refl _) (by decide) rfl, (Below.refl _ _).alloc (Nat.le_refl _) _⟩
  case round =>
    obtain ⟨k, hk, rfl, hown, hb⟩ := hrel
    obtain ⟨x, hx⟩ : ∃ x, x = 2 * k := ⟨_, rfl⟩
    have HX := Lib.hid hx
    rw [← hx] at hk ⊢
    clear hx
    have hlt : x < s.size := by omega
    have hlt1 : x + 1 < s.size := by have := HX.out; have := HO.out; omega
    by_cases h0 : x = i
    · have HF1 := Lib.hid (fun W => from_bad s x hlt (by rw [h0]; exact HB.out) W)
      clear h0
      by_cases hc2 : IsHex (bt s (x + 1))
      · have HF2 := Lib.hid (fun W => from_at s (x + 1) hlt1 hc2 W)
        clear hc2
        generalize hv (bt s (x + 1)) = b at *
        go_wp2_with (go_at_call 24; (first | (with_reducible refine (HF1.out _).mono ?_) | (with_reducible refine (HF2.out _).mono ?_)); rintro e w' ⟨rfl, rfl⟩)
        go_ret2
        exact ⟨rfl, hb⟩
      · have HF2 := Lib.hid (fun W => from_bad s (x + 1) hlt1 hc2 W)
        clear hc2
        go_wp2_with (go_at_call 24; (first | (with_reducible refine (HF1.out _).mono ?_) | (with_reducible refine (HF2.out _).mono ?_)); rintro e w' ⟨rfl, rfl⟩)
        go_ret2
        exact ⟨rfl, hb⟩
    · have h1 := HG.out x (by omega)
      have l1 := hv_lt h1
      have HF1 := Lib.hid (fun W => from_at s x hlt h1 W)
      by_cases h2i : x + 1 = i
      · have HF2 := Lib.hid (fun W => from_bad s (x + 1) hlt1 (by rw [h2i]; exact HB.out) W)
        clear h2i h1 h0
        generalize hv (bt s x) = a at *
        have da : decide ((a : Int) < 0) = false := by simp
        go_wp2_with (go_at_call 24; (first | (with_reducible refine (HF1.out _).mono ?_) | (with_reducible refine (HF2.out _).mono ?_)); rintro e w' ⟨rfl, rfl⟩)
        go_ret2
        exact ⟨rfl, hb⟩
      · have h2 := HG.out (x + 1) (by omega)
        have l2 := hv_lt h2
        have hx2 : x + 2 ≤ i := by omega
        have HR := Lib.hid (un_row s k (by rw [← HX.out]; exact l1) (by rw [← HX.out]; exact l2))
        rw [← HX.out] at HR
        have HF2 := Lib.hid (fun W => from_at s (x + 1) hlt1 h2 W)
        clear h1 h2 h0 h2i
        generalize hv (bt s x) = a at *
        generalize hv (bt s (x + 1)) = b at *
        have hmax : k + 1 ≤ maxLen := by have := HX.out; unfold maxLen; omega
        have hbyt : (k + 1) * 1 ≤ 140737488355328 := by have := HX.out; omega
        have hbase : ∀ o, w.heap.size ≤ (wr.alloc o).heap.size := fun o => by have := hb.size; simp; omega
        have da : decide ((a : Int) < 0) = false := by simp
        have db : decide ((b : Int) < 0) = false := by simp
        go_wp2_with (first | (go_at_call 24; (first | (with_reducible refine (HF1.out _).mono ?_) | (with_reducible refine (HF2.out _).mono ?_)); rintro e w' ⟨rfl, rfl⟩) | (at_builtin; refine wpList_append_own _ rfl _ _ 36 rfl w.heap.size 5 i0 (.int .u8 0) 1 1 Try.underlying36 hi5 hz0 hz1 hz2 rfl (by decide) _ _ _ rfl (hown.alloc _) ⟨_, 0, none⟩ 1 1 [.int .u8 (16 * (a : Int) + (b : Int))] rfl rfl (cell_one_new _ _ _) (one_oneCell _ _) hmax hbyt (hbase _) ?_))
        intro v' w1 hown' hgrow _
        rw [HR.out] at hown'
        have hb1 : Below w.heap.size w w1 := (hb.alloc hb.size _).grown hgrow (by have := hb.size; simp; omega) (fun k hk => (hown.lt k hk).1)
        go_wp2
        go_roundw
        case rel => exact ⟨k + 1, by have := HX.out; omega, by have := HX.out; go_num, hown', hb1⟩
        case measure => simp [intOf]; omega
theorem iter_setCell (W : World) (s : ByteArray) (p : Nat) (b j : Nat) (v : Value) (h : b < W.heap.size) : (W.iter s p).setCell ⟨b, j, none⟩ v = (W.setCell ⟨b, j, none⟩ v).iter s p := by
  unfold World.iter
  exact World.setCell_alloc_past _ _ _ _ h
theorem setCell_size (W : World) (a : Addr) (v : Value) : (W.setCell a v).heap.size = W.heap.size := by simp [World.setCell]
theorem hv_at (s : ByteArray) (x : Nat) (h : x < s.size) (hc : IsHex (bt s x)) (w : World) : Calls Try.prog 25 #[.int .i32 (((s[x]'h).toNat : Nat) : Int)] w fun e w' => e = .returned (.tuple #[.int .u8 ((hv (bt s x) : Nat) : Int), .bool true]) ∧ w = w' := by
  have := hv_yes (bt s x) w hc
  rw [bt_at s x h] at this ⊢
  exact this
set_option maxRecDepth 100000 in
theorem himpl_good (s : ByteArray) (w : World) (hs : s.size ≤ 1048576) (ho : s.size % 2 = 0) (hg : ∀ k, k < s.size → IsHex (bt s k)) :
    Calls Try.prog 20 #[.string s] w fun e w' => e = .returned (.tuple #[.string (unS s), .bool true]) ∧ Below w.heap.size w w' := by
  obtain ⟨n, hn⟩ : ∃ n, s.size = 2 * n := ⟨s.size / 2, by omega⟩
  have HG := Lib.hid hg
  have HN := Lib.hid hn
  have hd : ((s.size : Int) % 2 != 0) = false := by simp; omega
  have hmk := fun (W : World) => run_make_row' (P := Try.prog) 36 5 (.int .u8 0) 1 Try.underlying36 info5 rfl .i64 .i64 n (by omega) (by omega) W
  have hq : (s.size : Int) / 2 = (n : Int) := by omega
  clear hg ho hn
  go_enter Try.func20, Try.ntmps20
  go_wp2
  clear hmk hd hq
  go_loopw [5] (fun _ wr => ∃ (k : Nat) (W : World), k ≤ s.size ∧ wr = W.iter s k ∧ W.heap.size = w.heap.size + 1 ∧ W.rowIs w.heap.size 5 n (rowU s k) ∧ Below w.heap.size w W) (fun _ wr => s.size - wr.iterPos (w.heap.size + 1))
  case atStart => exact ⟨0, _, Nat.zero_le _, rfl, by simp, (World.rowIs_made _ _ _ _).congr fun j hj => (rowU_zero s j).symm, (Below.refl _ _).alloc (Nat.le_refl _) _⟩
  case round =>
    obtain ⟨k, W, hk, rfl, hW, hr, hb⟩ := hrel
    have HW := Lib.hid hW
    have hip : (W.iter s k).iterPos (w.heap.size + 1) = k := by rw [← hW]; exact World.iterPos_iter W s k
    rw [hip]
    clear hip
    by_cases hlt : k < s.size
    · have h1 := HG.out k hlt
      have e1 := bt_at s k hlt
      have hnx := fun ty => run_next_ascii (P := Try.prog) W s k ty hlt (by rw [← e1]; exact isHex_lt h1)
      rw [hW] at hnx
      have HF := Lib.hid (fun W => hv_at s k hlt h1 W)
      have l1 := hv_lt h1
      have hk2 : k / 2 < n := by have := HN.out; omega
      have hk2I : (k : Int) / 2 < (n : Int) := by omega
      have hold := cellU_old s k (by
        by_cases h0 : k = 0
        · subst h0; exact l1
        · exact hv_lt (HG.out (k - 1) (by omega)))
      have hc : (W.iter s (k + 1)).cell? ⟨w.heap.size, k / 2, none⟩ = some (.int .u8 ((cellU s k (k / 2) : Nat) : Int)) := by
        unfold World.iter
        rw [World.cell?_alloc_past _ _ _ (by omega)]
        exact hr.cell hk2
      have hf : (W.iter s (k + 1)).frozen? ⟨w.heap.size, k / 2, none⟩ = false := by
        unfold World.iter
        rw [World.frozen?_alloc_past _ _ _ (by omega)]
        exact hr.frozen _
      have HR := Lib.hid hr
      have HO := Lib.hid (or_nib (cellU s k (k / 2)) (hv (bt s k)) hold l1)
      have HS := Lib.hid (fun j => rowU_succ s k j)
      clear hr h1 e1 hW
      generalize cellU s k (k / 2) = x at *
      generalize hv (bt s k) = d at *
      go_wp2_with (go_at_call 25; (with_reducible refine (HF.out _).mono ?_); rintro e w' ⟨rfl, rfl⟩)
      have hlW : w.heap.size < W.heap.size := by have := HW.out; omega
      go_roundw
      case rel => exact ⟨k + 1, _, by omega, iter_setCell W s (k + 1) _ _ _ hlW, by rw [setCell_size]; exact HW.out, (HR.out.set (k / 2) _).congr (fun j _ => by rw [HO.out]; exact HS.out j), hb.setCell (Nat.le_refl _) _⟩
      case measure =>
        rw [iter_setCell W s (k + 1) _ _ _ hlW]
        have hp := World.iterPos_iter (W.setCell ⟨w.heap.size, k / 2, none⟩ (.int .u8 (bits .or .u8 ((x : Int) * 16) (d : Int)))) s (k + 1)
        rw [setCell_size, HW.out] at hp
        rw [hp]
        omega
    · obtain rfl : k = s.size := by omega
      have hnx := fun ty => run_next_end (P := Try.prog) W s s.size ty (by omega)
      rw [hW] at hnx
      have hcv := run_convert_bytes_back (P := Try.prog) (W.iter s s.size) 36 9 5 ⟨w.heap.size, 0, none⟩ n (unL s n) Try.underlying36 Try.underlying5 Try.underlying9 (fun jj hjj => by
        rw [unL_length] at hjj
        rw [Addr.add_lit, Nat.zero_add]
        unfold World.iter
        rw [World.cell?_alloc_past _ _ _ (by omega), hr.cell hjj, show rowU s s.size jj = rowU s (2 * n) jj from by rw [HN.out]]
        exact congrArg some (rowU_full s n jj hjj (hv_lt (HG.out _ (by have := HN.out; omega))) (hv_lt (HG.out _ (by have := HN.out; omega)))))
      rw [unL_length] at hcv
      have HC : (⟨(unL s n).toArray⟩ : ByteArray) = unS s := by unfold unS; rw [show s.size / 2 = n from by have := HN.out; omega]
      rw [HC] at hcv
      clear hr hW HC
      go_wp2
      go_ret2
      exact ⟨rfl, hb.alloc hb.size _⟩
theorem hv_none (c : Nat) (w : World) (hc : ¬ IsHex c) : Calls Try.prog 25 #[.int .i32 (c : Int)] w fun e w' => e = .returned (.tuple #[.int .u8 0, .bool false]) ∧ w = w' := hv_no c w hc
theorem himpl_odd (s : ByteArray) (w : World) (hs : s.size ≤ 1048576) (ho : s.size % 2 = 1) :
    Calls Try.prog 20 #[.string s] w fun e w' => e = Nay ∧ Below w.heap.size w w' := by
  have hd : ((s.size : Int) % 2 != 0) = true := by simp; omega
  clear ho
  go_enter Try.func20, Try.ntmps20
  go_wp2
  go_ret2
  exact ⟨rfl, Below.refl _ _⟩
set_option maxRecDepth 100000 in
theorem himpl_bad (s : ByteArray) (i : Nat) (w : World) (hs : s.size ≤ 1048576) (ho : s.size % 2 = 0) (hi : i < s.size) (hbad : ¬ IsHex (bt s i)) (hg : ∀ k, k < i → IsHex (bt s k)) :
    Calls Try.prog 20 #[.string s] w fun e w' => e = Nay ∧ Below w.heap.size w w' := by
  obtain ⟨n, hn⟩ : ∃ n, s.size = 2 * n := ⟨s.size / 2, by omega⟩
  have HG := Lib.hid hg
  have HB := Lib.hid hbad
  have HN := Lib.hid hn
  have hd : ((s.size : Int) % 2 != 0) = false := by simp; omega
  have hmk := fun (W : World) => run_make_row' (P := Try.prog) 36 5 (.int .u8 0) 1 Try.underlying36 info5 rfl .i64 .i64 n (by omega) (by omega) W
  have hq : (s.size : Int) / 2 = (n : Int) := by omega
  clear hg ho hn hbad
  go_enter Try.func20, Try.ntmps20
  go_wp2
  clear hmk hd hq
  go_loopw [5] (fun _ wr => ∃ (k : Nat) (W : World), k ≤ i ∧ wr = W.iter s k ∧ W.heap.size = w.heap.size + 1 ∧ W.rowIs w.heap.size 5 n (rowU s k) ∧ Below w.heap.size w W) (fun _ wr => s.size - wr.iterPos (w.heap.size + 1))
  case atStart => exact ⟨0, _, Nat.zero_le _, rfl, by simp, (World.rowIs_made _ _ _ _).congr fun j hj => (rowU_zero s j).symm, (Below.refl _ _).alloc (Nat.le_refl _) _⟩
  case round =>
    obtain ⟨k, W, hk, rfl, hW, hr, hb⟩ := hrel
    have HW := Lib.hid hW
    have hip : (W.iter s k).iterPos (w.heap.size + 1) = k := by rw [← hW]; exact World.iterPos_iter W s k
    rw [hip]
    clear hip
    have hlt : k < s.size := by omega
    have e1 := bt_at s k hlt
    by_cases hki : k < i
    · have h1 := HG.out k hki
      have hnx := fun ty => run_next_ascii (P := Try.prog) W s k ty hlt (by rw [← e1]; exact isHex_lt h1)
      rw [hW] at hnx
      have HF := Lib.hid (fun W => hv_at s k hlt h1 W)
      have l1 := hv_lt h1
      have hk2 : k / 2 < n := by have := HN.out; omega
      have hk2I : (k : Int) / 2 < (n : Int) := by omega
      have hold := cellU_old s k (by
        by_cases h0 : k = 0
        · subst h0; exact l1
        · exact hv_lt (HG.out (k - 1) (by omega)))
      have hc : (W.iter s (k + 1)).cell? ⟨w.heap.size, k / 2, none⟩ = some (.int .u8 ((cellU s k (k / 2) : Nat) : Int)) := by
        unfold World.iter
        rw [World.cell?_alloc_past _ _ _ (by omega)]
        exact hr.cell hk2
      have hf : (W.iter s (k + 1)).frozen? ⟨w.heap.size, k / 2, none⟩ = false := by
        unfold World.iter
        rw [World.frozen?_alloc_past _ _ _ (by omega)]
        exact hr.frozen _
      have HR := Lib.hid hr
      have HO := Lib.hid (or_nib (cellU s k (k / 2)) (hv (bt s k)) hold l1)
      have HS := Lib.hid (fun j => rowU_succ s k j)
      clear hr h1 e1 hW
      generalize cellU s k (k / 2) = x at *
      generalize hv (bt s k) = d at *
      go_wp2_with (go_at_call 25; (with_reducible refine (HF.out _).mono ?_); rintro e w' ⟨rfl, rfl⟩)
      have hlW : w.heap.size < W.heap.size := by have := HW.out; omega
      go_roundw
      case rel => exact ⟨k + 1, _, by omega, iter_setCell W s (k + 1) _ _ _ hlW, by rw [setCell_size]; exact HW.out, (HR.out.set (k / 2) _).congr (fun j _ => by rw [HO.out]; exact HS.out j), hb.setCell (Nat.le_refl _) _⟩
      case measure =>
        rw [iter_setCell W s (k + 1) _ _ _ hlW]
        have hp := World.iterPos_iter (W.setCell ⟨w.heap.size, k / 2, none⟩ (.int .u8 (bits .or .u8 ((x : Int) * 16) (d : Int)))) s (k + 1)
        rw [setCell_size, HW.out] at hp
        rw [hp]
        omega
    · obtain rfl : k = i := by omega
      by_cases ha : (s[k]'hlt).toNat < 128
      · have hnx := fun ty => run_next_ascii (P := Try.prog) W s k ty hlt ha
        rw [hW] at hnx
        have HF := Lib.hid (fun W => hv_no ((s[k]'hlt).toNat) W (by rw [← e1]; exact HB.out))
        clear hr e1 hW
        go_wp2_with (go_at_call 25; (with_reducible refine (HF.out _).mono ?_); rintro e w' ⟨rfl, rfl⟩)
        go_ret2
        exact ⟨rfl, hb.alloc hb.size _⟩
      · have hh := decode_high s k hlt (by omega)
        have hnx := fun ty => run_next_any (P := Try.prog) W s k ty hlt
        rw [hW] at hnx
        have HF := Lib.hid (fun W => hv_no (Utf8.decode s k).1 W (by unfold IsHex; omega))
        clear hr e1 hW ha
        generalize (Utf8.decode s k).1 = r at *
        go_wp2_with (go_at_call 25; (with_reducible refine (HF.out _).mono ?_); rintro e w' ⟨rfl, rfl⟩)
        go_ret2
        exact ⟨rfl, hb.alloc hb.size _⟩
/-- Whatever the string: both functions answer alike. -/
theorem bothH (s : ByteArray) (hs : s.size ≤ 1048576) : ∃ (S : ByteArray) (b : Bool), ∀ w : World,
    Calls Try.prog 19 #[.string s] w (fun e w' => e = .returned (.tuple #[.string S, .bool b]) ∧ Below w.heap.size w w') ∧
    Calls Try.prog 20 #[.string s] w (fun e w' => e = .returned (.tuple #[.string S, .bool b]) ∧ Below w.heap.size w w') := by
  by_cases ho : s.size % 2 = 1
  · exact ⟨_, _, fun w => ⟨hspec_odd s w hs ho, himpl_odd s w hs ho⟩⟩
  · have he : s.size % 2 = 0 := by omega
    rcases first_bad s with hg | ⟨i, hi, hbad, hh⟩
    · exact ⟨_, _, fun w => ⟨hspec_good s w hs he hg, himpl_good s w hs he hg⟩⟩
    · exact ⟨_, _, fun w => ⟨hspec_bad s i w hs he hi hbad hh, himpl_bad s i w hs he hi hbad hh⟩⟩
end Go.Proofs.Ytfjjpmpkjcopiaa.decHex
