/- LockOwner and LocksOf of the program and of the model: what each answers. -/
import Derived.Test.YthbbpfgjbidbhaaLk
import Derived.Test.YthbbpfgjbidbhaaOwi
import Derived.Test.YthbbpfgjbidbhaaWk
namespace Go.Proofs.Ythbbpfgjbidbhaa.lkr
open Go.ChangeShapes Go.WideShapes Go.ChangeAt Go.RowKit
open Go.Proofs.Ythbbpfgjbidbhaa.el2 Go.Proofs.Ythbbpfgjbidbhaa.seq Go.Proofs.Ythbbpfgjbidbhaa.lk Go.Proofs.Ythbbpfgjbidbhaa.owi
open Go.Proofs.Ythbbpfgjbidbhaa.tf (drop_cons)
open Go.Proofs.Ythbbpfgjbidbhaa.wk (own_made0 grown_i)
set_option linter.unusedVariables false
set_option linter.unusedSimpArgs false
theorem ret_i {a b : Int} (h : a = b) : Ending.returned (.int .i64 a) = .returned (.int .i64 b) := by rw [h]
theorem own_hit {l : List E2} {key : Int} {k : Nat} {x : E2} (h : ownI key l = ownI key (l.drop k)) (hx : l[k]? = some x) (hc : x.a = key) : x.b = ownI key l := by
  rw [h, drop_cons hx]
  simp [ownI, hc]
theorem own_step {l : List E2} {key : Int} {k : Nat} {x : E2} (h : ownI key l = ownI key (l.drop k)) (hx : l[k]? = some x) (hc : x.a ≠ key) : ownI key l = ownI key (l.drop (k + 1)) := by
  rw [h, drop_cons hx]
  simp [ownI, hc]
theorem own_end {l : List E2} {key : Int} {k : Nat} (h : ownI key l = ownI key (l.drop k)) (hk : l.length ≤ k) : (0 : Int) = ownI key l := by
  rw [h, List.drop_eq_nil_of_le hk]
  rfl
set_option maxRecDepth 100000 in
set_option maxHeartbeats 1600000 in
theorem spec_owner {w : World} {B n c : Nat} {A : Option Addr} {l : List E2} (key : Int) (hn : n ≤ 140737488355328) (h1 : Vs w B A n l) (hB : B ≤ w.heap.size) :
    Calls Try.prog 22 #[.slice A n c, .int .i64 key] w fun e w' => e = .returned (.int .i64 (ownI key l)) ∧ w = w' := by
  have H1 := Lib.hid h1
  have hln := h1.1
  clear h1
  go_enter Try.func22, Try.ntmps22
  go_wp2
  go_loop [5] (fun i => ∃ k : Nat, k ≤ n ∧ i = .int .i64 k ∧ ownI key l = ownI key (l.drop k)) (fun i => n - (intOf i).toNat)
  case atStart => exact ⟨0, by omega, rfl, rfl⟩
  case round =>
    obtain ⟨k, hk, rfl, hP⟩ := hrel
    have HP := Lib.hid hP
    clear hP
    by_cases hlt : k < n
    · obtain ⟨b, o, y, rfl, hbB, hx, a0, a1⟩ := H1.out.at_ hlt
      have HX := Lib.hid hx
      clear hx
      by_cases hc : y.a = key
      · have t : (y.a == key) = true := by simpa using hc
        have HC := Lib.hid hc
        clear hc
        go_wp2_with fail
        go_ret
        exact ⟨ret_i (own_hit HP.out HX.out HC.out), rfl⟩
      · have t : (y.a == key) = false := by simpa using hc
        have HC := Lib.hid hc
        clear hc
        go_wp2_with fail
        go_round
        case rel => exact ⟨k + 1, by omega, by go_num, own_step HP.out HX.out HC.out⟩
        case measure => simp [intOf]; omega
    · go_wp2_with fail
      go_ret
      exact ⟨ret_i (own_end HP.out (by omega)), rfl⟩
set_option maxRecDepth 100000 in
set_option maxHeartbeats 1600000 in
theorem impl_owner {w : World} {B n c : Nat} {A : Option Addr} {l : List E2} (key : Int) (hn : n ≤ 140737488355328) (h1 : Vs w B A n l) (hB : B ≤ w.heap.size) :
    Calls Try.prog 16 #[.slice A n c, .int .i64 key] w fun e w' => e = .returned (.int .i64 (ownI key l)) ∧ Below w.heap.size w w' := by
  have H1 := Lib.hid h1
  have hln := h1.1
  clear h1
  go_enter Try.func16, Try.ntmps16
  go_wp2
  go_loopw [9] (fun i wr => ∃ k : Nat, k ≤ n ∧ i = .int .i64 k ∧ ownI key l = ownI key (l.drop k) ∧ Below w.heap.size w wr) (fun i _ => n - (intOf i).toNat)
  case atStart => exact ⟨0, by omega, rfl, rfl, Below.refl _ _⟩
  case round =>
    obtain ⟨k, hk, rfl, hP, hb⟩ := hrel
    have HP := Lib.hid hP
    clear hP
    have HB := Lib.hid hb
    by_cases hlt : k < n
    · obtain ⟨b, o, y, rfl, hbB, hx, a0, a1⟩ := (H1.out.below (below_le hb hB)).at_ hlt
      have HX := Lib.hid hx
      clear hb hx
      by_cases hc : y.a = key
      · have t : (y.a == key) = true := by simpa using hc
        have HC := Lib.hid hc
        clear hc
        go_wp2_with fail
        go_ret
        exact ⟨ret_i (own_hit HP.out HX.out HC.out), HB.out.alloc HB.out.size _⟩
      · have t : (y.a == key) = false := by simpa using hc
        have HC := Lib.hid hc
        clear hc
        go_wp2_with fail
        go_roundw
        case rel => exact ⟨k + 1, by omega, by go_num, own_step HP.out HX.out HC.out, HB.out.alloc HB.out.size _⟩
        case measure => simp [intOf]; omega
    · go_wp2_with fail
      go_ret
      exact ⟨ret_i (own_end HP.out (by omega)), HB.out⟩
theorem spec_owner_b {w : World} {B n c : Nat} {A : Option Addr} {l : List E2} (key : Int) (hn : n ≤ 140737488355328) (h1 : Vs w B A n l) (hB : B ≤ w.heap.size) :
    Calls Try.prog 22 #[.slice A n c, .int .i64 key] w fun e w' => e = .returned (.int .i64 (ownI key l)) ∧ Below w.heap.size w w' :=
  (spec_owner key hn h1 hB).mono fun e w' ⟨he, hw⟩ => ⟨he, by rw [← hw]; exact Below.refl _ _⟩
/-! the keys of an owner -/
theorem of_step {l : List E2} {o : Int} {k : Nat} {y : E2} (hx : l[k]? = some y) (h : y.b = o) : ofL o (l.take k) ++ [y.a] = ofL o (l.take (k + 1)) := by
  rw [List.take_add_one, hx]
  simp [ofL, List.filter_append, h]
theorem of_skip {l : List E2} {o : Int} {k : Nat} {y : E2} (hx : l[k]? = some y) (h : y.b ≠ o) : ofL o (l.take k) = ofL o (l.take (k + 1)) := by
  rw [List.take_add_one, hx]
  simp [ofL, List.filter_append, h]
theorem of_all {l : List E2} {o : Int} {n : Nat} (h : l.length = n) : ofL o (l.take n) = ofL o l := by rw [List.take_of_length_le (by omega)]
theorem of_small (o : Int) (l : List E2) (k : Nat) : (ofL o (l.take k)).length ≤ k := Nat.le_trans (of_len o _) (by rw [List.length_take]; omega)
set_option maxRecDepth 100000 in
set_option maxHeartbeats 3200000 in
theorem spec_of {w : World} {B n c : Nat} {A : Option Addr} {l : List E2} (o : Int) (hn : n ≤ 2097152) (h1 : Vs w B A n l) (hB : B ≤ w.heap.size) :
    Calls Try.prog 26 #[.slice A n c, .int .i64 o] w fun e w' => ∃ A' c', e = .returned (.slice A' (ofL o l).length c') ∧ w'.ownsRow w.heap.size 3 1 (.slice A' (ofL o l).length c') (ofL o l).length (mi (ofL o l)) ∧ Below w.heap.size w w' := by
  have H1 := Lib.hid h1
  have hln := h1.1
  obtain ⟨i0, hi, hz, hs, hby⟩ := info_parts info_i
  have HI := Lib.hid hi
  have HZ := Lib.hid hz
  have HS := Lib.hid hs
  have HBY := Lib.hid hby
  clear h1 hi hz hs hby
  go_enter Try.func26, Try.ntmps26
  go_wp2_with fail
  have hE := own_made0 w w.heap.size (Nat.le_refl _)
  have hb0 := new1 w (.cells #[] 3)
  generalize w.alloc _ = W1 at hE hb0 ⊢
  have E1 := Lib.hid hE
  have B1 := Lib.hid hb0
  clear hE hb0
  try go_wp2_with fail
  go_loopw [5, 6] (fun q i wr => ∃ (k m c' : Nat) (A' : Option Addr), k ≤ n ∧ m = (ofL o (l.take k)).length ∧ i = .int .i64 k ∧ q = .slice A' m c' ∧ wr.ownsRow w.heap.size 3 1 (.slice A' m c') m (mi (ofL o (l.take k))) ∧ Below w.heap.size w wr) (fun _ i _ => n - (intOf i).toNat)
  case atStart => exact ⟨0, 0, 0, _, by omega, rfl, rfl, rfl, by simpa [ofL] using E1.out, B1.out⟩
  case round =>
    obtain ⟨k, m, c', A', hk, hm, rfl, rfl, hO, hb⟩ := hrel
    have hmk := of_small o l k
    have HM := Lib.hid hm
    have OW := Lib.hid hO
    have HB := Lib.hid hb
    clear hO hb hm
    have hmk : m ≤ k := by have := HM.out; omega
    by_cases hlt : k < n
    · obtain ⟨b, p, y, rfl, hbB, hx, a0, a1⟩ := (H1.out.below (below_le HB.out hB)).at_ hlt
      have HX := Lib.hid hx
      clear hx
      by_cases hc : y.b = o
      · have t : (y.b == o) = true := by simpa using hc
        have HC := Lib.hid hc
        clear hc
        have hsz := HB.out.size
        have hn1 := new1 wr (.cells #[.int .i64 y.a] 3)
        have hO3 := own_keep OW.out hn1
        have hone : (wr.alloc (.cells #[.int .i64 y.a] 3)).cell? ⟨wr.heap.size, 0, none⟩ = some (.int .i64 y.a) := World.cell?_alloc_mark wr _ 3 _ 0
        obtain ⟨v', w4, hr, ho4, hg4⟩ := run_append_i (P := Try.prog) (wr.alloc (.cells #[.int .i64 y.a] 3)) 35 35 3 i0 _ Try.underlying35 HI.out HZ.out HS.out HBY.out rfl hO3 hone (c := 1) (by omega) (by simp; omega)
        have hb4 : Below w.heap.size w w4 := (HB.out.trans (hn1.mono hsz)).trans (grown_i hO3 hg4 (by simp; omega))
        rw [of_step HX.out HC.out] at ho4
        obtain ⟨A4, c4, rfl⟩ := own_form ho4
        have O4 := Lib.hid ho4
        have L4 := Lib.hid hb4
        have HM4 : Hid (m + 1 = (ofL o (l.take (k + 1))).length) := Lib.hid (by rw [← of_step HX.out HC.out, List.length_append, ← HM.out]; rfl)
        clear hO3 hone hn1 ho4 hg4 hb4 hsz
        go_wp2_with (at_builtin; refine Lib.wpList_append_run _ rfl _ _ 35 35 rfl _ _ rfl rfl _ _ hr ?_)
        go_roundw
        case rel => exact ⟨k + 1, m + 1, c4, A4, by omega, HM4.out, by go_num, rfl, O4.out, L4.out⟩
        case measure => simp [intOf]; omega
      · have t : (y.b == o) = false := by simpa using hc
        have HC := Lib.hid hc
        clear hc
        have HM4 : Hid (m = (ofL o (l.take (k + 1))).length) := Lib.hid (by rw [← of_skip HX.out HC.out]; exact HM.out)
        have O4 : Hid (wr.ownsRow w.heap.size 3 1 (.slice A' m c') m (mi (ofL o (l.take (k + 1))))) := Lib.hid (by rw [← of_skip HX.out HC.out]; exact OW.out)
        go_wp2_with fail
        go_roundw
        case rel => exact ⟨k + 1, m, c', A', by omega, HM4.out, by go_num, rfl, O4.out, HB.out⟩
        case measure => simp [intOf]; omega
    · obtain rfl : n = k := by omega
      have hE := of_all (o := o) hln
      have HM2 : Hid ((ofL o l).length = m) := Lib.hid (by rw [← hE]; exact HM.out.symm)
      have HE := Lib.hid hE
      clear hE
      go_wp2_with fail
      go_ret
      rw [HM2.out, ← HE.out]
      exact ⟨_, _, rfl, OW.out, HB.out⟩
set_option maxRecDepth 100000 in
set_option maxHeartbeats 3200000 in
theorem impl_of {w : World} {B n c : Nat} {A : Option Addr} {l : List E2} (o : Int) (hn : n ≤ 2097152) (h1 : Vs w B A n l) (hB : B ≤ w.heap.size) :
    Calls Try.prog 18 #[.slice A n c, .int .i64 o] w fun e w' => ∃ A' c', e = .returned (.slice A' (ofL o l).length c') ∧ w'.ownsRow w.heap.size 3 1 (.slice A' (ofL o l).length c') (ofL o l).length (mi (ofL o l)) ∧ Below w.heap.size w w' := by
  have H1 := Lib.hid h1
  have hln := h1.1
  obtain ⟨i0, hi, hz, hs, hby⟩ := info_parts info_i
  have HI := Lib.hid hi
  have HZ := Lib.hid hz
  have HS := Lib.hid hs
  have HBY := Lib.hid hby
  clear h1 hi hz hs hby
  go_enter Try.func18, Try.ntmps18
  go_wp2
  go_loopw [5, 10] (fun q i wr => ∃ (k m c' : Nat) (A' : Option Addr), k ≤ n ∧ m = (ofL o (l.take k)).length ∧ i = .int .i64 k ∧ q = .slice A' m c' ∧ wr.ownsRow w.heap.size 3 1 (.slice A' m c') m (mi (ofL o (l.take k))) ∧ Below w.heap.size w wr) (fun _ i _ => n - (intOf i).toNat)
  case atStart => exact ⟨0, 0, 0, none, by omega, rfl, rfl, rfl, by simpa [ofL] using World.ownsRow_nil _ _ _ _, Below.refl _ _⟩
  case round =>
    obtain ⟨k, m, c', A', hk, hm, rfl, rfl, hO, hb⟩ := hrel
    have hmk := of_small o l k
    have HM := Lib.hid hm
    have OW := Lib.hid hO
    have HB := Lib.hid hb
    clear hO hb hm
    have hmk : m ≤ k := by have := HM.out; omega
    by_cases hlt : k < n
    · obtain ⟨b, p, y, rfl, hbB, hx, a0, a1⟩ := (H1.out.below (below_le HB.out hB)).at_ hlt
      have HX := Lib.hid hx
      clear hx
      have hsz := HB.out.size
      have hn0 := new1 wr (.cells #[.int .i64 y.a, .int .i64 y.b] 31)
      have HB0 : Hid (Below w.heap.size w (wr.alloc (.cells #[.int .i64 y.a, .int .i64 y.b] 31))) := Lib.hid (HB.out.trans (hn0.mono hsz))
      have OW0 := Lib.hid (own_keep OW.out hn0)
      clear hn0
      by_cases hc : y.b = o
      · have t : (y.b == o) = true := by simpa using hc
        have HC := Lib.hid hc
        clear hc
        have hn1 := new1 (wr.alloc (.cells #[.int .i64 y.a, .int .i64 y.b] 31)) (.cells #[.int .i64 y.a] 3)
        have hO3 := own_keep OW0.out hn1
        have hone : ((wr.alloc (.cells #[.int .i64 y.a, .int .i64 y.b] 31)).alloc (.cells #[.int .i64 y.a] 3)).cell? ⟨(wr.alloc (.cells #[.int .i64 y.a, .int .i64 y.b] 31)).heap.size, 0, none⟩ = some (.int .i64 y.a) := World.cell?_alloc_mark _ _ 3 _ 0
        obtain ⟨v', w4, hr, ho4, hg4⟩ := run_append_i (P := Try.prog) ((wr.alloc (.cells #[.int .i64 y.a, .int .i64 y.b] 31)).alloc (.cells #[.int .i64 y.a] 3)) 35 35 3 i0 _ Try.underlying35 HI.out HZ.out HS.out HBY.out rfl hO3 hone (c := 1) (by omega) (by simp; omega)
        have hb4 : Below w.heap.size w w4 := (HB0.out.trans (hn1.mono (by simp; omega))).trans (grown_i hO3 hg4 (by simp; omega))
        rw [show (wr.alloc (.cells #[.int .i64 y.a, .int .i64 y.b] 31)).heap.size = wr.heap.size + 1 by simp] at hr
        rw [of_step HX.out HC.out] at ho4
        obtain ⟨A4, c4, rfl⟩ := own_form ho4
        have O4 := Lib.hid ho4
        have L4 := Lib.hid hb4
        have HM4 : Hid (m + 1 = (ofL o (l.take (k + 1))).length) := Lib.hid (by rw [← of_step HX.out HC.out, List.length_append, ← HM.out]; rfl)
        clear hO3 hone hn1 ho4 hg4 hb4 hsz
        go_wp2_with (at_builtin; refine Lib.wpList_append_run _ rfl _ _ 35 35 rfl _ _ rfl rfl _ _ hr ?_)
        go_roundw
        case rel => exact ⟨k + 1, m + 1, c4, A4, by omega, HM4.out, by go_num, rfl, O4.out, L4.out⟩
        case measure => simp [intOf]; omega
      · have t : (y.b == o) = false := by simpa using hc
        have HC := Lib.hid hc
        clear hc
        have HM4 : Hid (m = (ofL o (l.take (k + 1))).length) := Lib.hid (by rw [← of_skip HX.out HC.out]; exact HM.out)
        have O4 : Hid ((wr.alloc (.cells #[.int .i64 y.a, .int .i64 y.b] 31)).ownsRow w.heap.size 3 1 (.slice A' m c') m (mi (ofL o (l.take (k + 1))))) := Lib.hid (by rw [← of_skip HX.out HC.out]; exact OW0.out)
        go_wp2_with fail
        go_roundw
        case rel => exact ⟨k + 1, m, c', A', by omega, HM4.out, by go_num, rfl, O4.out, HB0.out⟩
        case measure => simp [intOf]; omega
    · obtain rfl : n = k := by omega
      have hE := of_all (o := o) hln
      have HM2 : Hid ((ofL o l).length = m) := Lib.hid (by rw [← hE]; exact HM.out.symm)
      have HE := Lib.hid hE
      clear hE
      go_wp2_with fail
      go_ret
      rw [HM2.out, ← HE.out]
      exact ⟨_, _, rfl, OW.out, HB.out⟩
end Go.Proofs.Ythbbpfgjbidbhaa.lkr
