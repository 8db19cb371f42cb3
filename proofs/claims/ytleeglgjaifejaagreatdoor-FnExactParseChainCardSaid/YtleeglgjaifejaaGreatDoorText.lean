/- The text of a version and of a chain: what the program's and the model's functions write; nothing that was there is written. -/
import Derived.Test.YtleeglgjaifejaaGreatDoorCh
import Derived.Test.YtleeglgjaifejaaGreatDoorMarks
import Derived.Test.YtleeglgjaifejaaGreatDoorJoin
import Derived.WalkKit
import Derived.ProofKit
import Derived.Below
import Derived.Lib.Hide
import Derived.LoopTactic
import Derived.Deep.QuietTactic
import Derived.BigQuiet
import Derived.Outline
import Derived.IntWalk
namespace Go.Proofs.YtleeglgjaifejaaGreatDoor.text
open Go.ChangeShapes Go.WideShapes Go.ChangeAt Go.RowKit
open Go.Proofs.YtleeglgjaifejaaGreatDoor.vers Go.Proofs.YtleeglgjaifejaaGreatDoor.sl Go.Proofs.YtleeglgjaifejaaGreatDoor.ch Go.Proofs.YtleeglgjaifejaaGreatDoor.fmtn Go.Proofs.YtleeglgjaifejaaGreatDoor.tabs
open Go.Proofs.YtleeglgjaifejaaGreatDoor.marks (FM spec_fm impl_fm infS fm_in fm_inf)
open Go.Proofs.YtleeglgjaifejaaGreatDoor.fmtInt (spec_fmt impl_fmt)
set_option linter.unusedVariables false
set_option linter.unusedSimpArgs false
abbrev Pow (w : World) : Prop := Lib.TabIs Tryz.prog w "internal/strconv.uint64pow10" .u64 Lib.pow10Tab
def vS (n : Int) : ByteArray := if n = -1 then ⟨#[45]⟩ else S (Lib.itoa n)
theorem vS_size {n : Int} (h0 : -999999999 ≤ n) (h1 : n ≤ 999999999) : (vS n).size ≤ 10 := by
  unfold vS
  split
  · show (#[45] : Array UInt8).size ≤ 10
    decide
  · rw [S_size]; exact Go.Proofs.YtleeglgjaifejaaGreatDoor.dig.itoa_len _ h0 h1
theorem FM_size (n : Int) : (FM n).size ≤ 10 := by
  unfold FM
  split
  · rw [S_size]; exact Go.Proofs.YtleeglgjaifejaaGreatDoor.dig.itoa_len _ (by omega) (by omega)
  · split
    · decide
    · decide
theorem ret_str {a b : ByteArray} (h : a = b) : Ending.returned (.string a) = .returned (.string b) := by rw [h]
theorem wf_v {a b c d e : Int} (h : vP a b c d e) : (0 ≤ a ∧ a ≤ 9) ∧ (-1 ≤ b ∧ b ≤ 99) ∧ (0 ≤ c ∧ c ≤ 999) ∧ (0 ≤ d ∧ d ≤ 999) ∧ (1 ≤ e ∧ e ≤ 1000) := by
  unfold vP at h
  omega
theorem impl_val (n : Int) (w : World) (h0 : -9223372036854775808 ≤ n) (h1 : n ≤ 9223372036854775807) (htab : Pow w) :
    Calls Tryz.prog 53 #[.int .i64 n] w fun e w' => e = .returned (.string (vS n)) ∧ Below w.heap.size w w' := by
  have HC := Lib.hid (impl_fmt n w h0 h1 htab)
  by_cases hn : n = -1
  · have t : (n == -1) = true := by simpa using hn
    have HN := Lib.hid hn
    clear hn htab
    go_enter Tryz.func53, Tryz.ntmps53
    go_wp2_with fail
    go_ret
    exact ⟨ret_str (by unfold vS; rw [if_pos HN.out]), Below.refl _ _⟩
  · have t : (n == -1) = false := by simpa using hn
    have HN := Lib.hid hn
    clear hn htab
    go_enter Tryz.func53, Tryz.ntmps53
    go_wp2_with fail
    refine HC.out.mono ?_
    rintro e W ⟨rfl, hb⟩
    go_wp2_with fail
    go_ret
    exact ⟨ret_str (by unfold vS; rw [if_neg HN.out]), hb⟩
theorem spec_val (n : Int) (w : World) (h0 : -9223372036854775808 ≤ n) (h1 : n ≤ 9223372036854775807) :
    Calls Tryz.prog 69 #[.int .i64 n] w fun e w' => e = .returned (.string (vS n)) ∧ Below w.heap.size w w' := by
  have HC := Lib.hid (spec_fmt n w h0 h1)
  by_cases hn : n = -1
  · have t : (n == -1) = true := by simpa using hn
    have HN := Lib.hid hn
    clear hn
    go_enter Tryz.func69, Tryz.ntmps69
    go_wp2_with fail
    go_ret
    exact ⟨ret_str (by unfold vS; rw [if_pos HN.out]), Below.refl _ _⟩
  · have t : (n == -1) = false := by simpa using hn
    have HN := Lib.hid hn
    clear hn
    go_enter Tryz.func69, Tryz.ntmps69
    go_wp2_with fail
    refine HC.out.mono ?_
    rintro e W ⟨rfl, hb⟩
    go_wp2_with fail
    go_ret
    exact ⟨ret_str (by unfold vS; rw [if_neg HN.out]), hb⟩
/-- the text of a version -/
def vt (x : Ver) : ByteArray := ((((((((S (Lib.itoa x.a) ++ ⟨#[58]⟩) ++ vS x.b) ++ ⟨#[64]⟩) ++ S (Lib.itoa x.c)) ++ ⟨#[44]⟩) ++ S (Lib.itoa x.d)) ++ ⟨#[44]⟩) ++ FM x.e)
set_option maxRecDepth 100000 in
set_option maxHeartbeats 1600000 in
theorem impl_version_text (x : Ver) (hv : vP x.a x.b x.c x.d x.e) (w : World) (htab : Pow w) :
    Calls Tryz.prog 31 #[.agg #[.int .i64 x.a, .int .i64 x.b, .int .i64 x.c, .int .i64 x.d, .int .i64 x.e]] w fun e w' => e = .returned (.string (vt x)) ∧ Below w.heap.size w w' := by
  obtain ⟨ha, hb, hc, hd, he⟩ := wf_v hv
  have CA := Lib.hid (fun W h => impl_fmt x.a W (by omega) (by omega) h)
  have CB := Lib.hid (fun W h => impl_val x.b W (by omega) (by omega) h)
  have CC := Lib.hid (fun W h => impl_fmt x.c W (by omega) (by omega) h)
  have CD := Lib.hid (fun W h => impl_fmt x.d W (by omega) (by omega) h)
  have CE := Lib.hid (fun W h => impl_fm x.e W (by omega) (by omega) h)
  have HT := Lib.hid htab
  have z1 : (S (Lib.itoa x.a)).size ≤ 10 := by rw [S_size]; exact Go.Proofs.YtleeglgjaifejaaGreatDoor.dig.itoa_len _ (by omega) (by omega)
  have z2 : (vS x.b).size ≤ 10 := vS_size (by omega) (by omega)
  have z3 : (S (Lib.itoa x.c)).size ≤ 10 := by rw [S_size]; exact Go.Proofs.YtleeglgjaifejaaGreatDoor.dig.itoa_len _ (by omega) (by omega)
  have z4 : (S (Lib.itoa x.d)).size ≤ 10 := by rw [S_size]; exact Go.Proofs.YtleeglgjaifejaaGreatDoor.dig.itoa_len _ (by omega) (by omega)
  have z5 : (FM x.e).size ≤ 10 := FM_size _
  clear ha hb hc hd he hv htab
  go_enter Tryz.func31, Tryz.ntmps31
  go_wp2_with fail
  have q0 := new1 w (.cells #[.int .i64 x.a, .int .i64 x.b, .int .i64 x.c, .int .i64 x.d, .int .i64 x.e] 30)
  have q1 := boxed w x 30
  have q2 : w.heap.size < (w.alloc (.cells #[.int .i64 x.a, .int .i64 x.b, .int .i64 x.c, .int .i64 x.d, .int .i64 x.e] 30)).heap.size := by simp
  have q3 : Pow (w.alloc (.cells #[.int .i64 x.a, .int .i64 x.b, .int .i64 x.c, .int .i64 x.d, .int .i64 x.e] 30)) := powTab_below HT.out q0
  obtain ⟨N, hN⟩ : ∃ N, N = w.heap.size := ⟨_, rfl⟩
  simp only [← hN] at q1 q2 ⊢
  generalize w.alloc (.cells #[.int .i64 x.a, .int .i64 x.b, .int .i64 x.c, .int .i64 x.d, .int .i64 x.e] 30) = wq at q0 q1 q2 q3 ⊢
  have HN := Lib.hid hN
  have HQ := Lib.hid q0
  have Q1 := Lib.hid q1
  have Q3 := Lib.hid q3
  clear hN q0 q1 q3
  refine class_region wq.heap.size (by kernel_rfl) (by kernel_rfl) ?_
  with_reducible refine class_opk (.pointer (some ⟨N, 0, none⟩)) ?_ ?_ ?_
  · exact rfl
  · intro W hW; go_simp
  intro K hK
  go_simp
  with_reducible refine hK _ ?_
  clear hK K
  with_reducible refine class_opk (.int .i64 x.a) ?_ ?_ ?_
  · exact rfl
  · intro W hW
    obtain ⟨g0, g1, g2, g3, g4⟩ := atFlat (Q1.out.keep (B := wq.heap.size) q2 hW)
    go_simp
  intro K hK
  go_simp
  with_reducible refine hK _ ?_
  clear hK K
  with_reducible refine class_opk (.string (S (Lib.itoa x.a))) ?_ ?_ ?_
  · exact rfl
  · intro W hW
    go_simp
    refine class_call hW ?_
    exact CA.out W (powTab_below Q3.out hW)
  intro K hK
  go_simp
  with_reducible refine hK _ ?_
  clear hK K
  with_reducible refine class_opk (.string ((S (Lib.itoa x.a) ++ ⟨#[58]⟩))) ?_ ?_ ?_
  · exact rfl
  · intro W hW; go_simp; rw [if_neg (by omega)]; exact ⟨rfl, rfl⟩
  intro K hK
  go_simp
  with_reducible refine hK _ ?_
  clear hK K
  with_reducible refine class_opk (.pointer (some ⟨N, 1, none⟩)) ?_ ?_ ?_
  · exact rfl
  · intro W hW; go_simp
  intro K hK
  go_simp
  with_reducible refine hK _ ?_
  clear hK K
  with_reducible refine class_opk (.int .i64 x.b) ?_ ?_ ?_
  · exact rfl
  · intro W hW
    obtain ⟨g0, g1, g2, g3, g4⟩ := atFlat (Q1.out.keep (B := wq.heap.size) q2 hW)
    go_simp
  intro K hK
  go_simp
  with_reducible refine hK _ ?_
  clear hK K
  with_reducible refine class_opk (.string (vS x.b)) ?_ ?_ ?_
  · exact rfl
  · intro W hW
    go_simp
    refine class_call hW ?_
    exact CB.out W (powTab_below Q3.out hW)
  intro K hK
  go_simp
  with_reducible refine hK _ ?_
  clear hK K
  with_reducible refine class_opk (.string (((S (Lib.itoa x.a) ++ ⟨#[58]⟩) ++ vS x.b))) ?_ ?_ ?_
  · exact rfl
  · intro W hW; go_simp; rw [if_neg (by omega)]; exact ⟨rfl, rfl⟩
  intro K hK
  go_simp
  with_reducible refine hK _ ?_
  clear hK K
  with_reducible refine class_opk (.string ((((S (Lib.itoa x.a) ++ ⟨#[58]⟩) ++ vS x.b) ++ ⟨#[64]⟩))) ?_ ?_ ?_
  · exact rfl
  · intro W hW; go_simp; rw [if_neg (by omega)]; exact ⟨rfl, rfl⟩
  intro K hK
  go_simp
  with_reducible refine hK _ ?_
  clear hK K
  with_reducible refine class_opk (.pointer (some ⟨N, 2, none⟩)) ?_ ?_ ?_
  · exact rfl
  · intro W hW; go_simp
  intro K hK
  go_simp
  with_reducible refine hK _ ?_
  clear hK K
  with_reducible refine class_opk (.int .i64 x.c) ?_ ?_ ?_
  · exact rfl
  · intro W hW
    obtain ⟨g0, g1, g2, g3, g4⟩ := atFlat (Q1.out.keep (B := wq.heap.size) q2 hW)
    go_simp
  intro K hK
  go_simp
  with_reducible refine hK _ ?_
  clear hK K
  with_reducible refine class_opk (.string (S (Lib.itoa x.c))) ?_ ?_ ?_
  · exact rfl
  · intro W hW
    go_simp
    refine class_call hW ?_
    exact CC.out W (powTab_below Q3.out hW)
  intro K hK
  go_simp
  with_reducible refine hK _ ?_
  clear hK K
  with_reducible refine class_opk (.string (((((S (Lib.itoa x.a) ++ ⟨#[58]⟩) ++ vS x.b) ++ ⟨#[64]⟩) ++ S (Lib.itoa x.c)))) ?_ ?_ ?_
  · exact rfl
  · intro W hW; go_simp; rw [if_neg (by omega)]; exact ⟨rfl, rfl⟩
  intro K hK
  go_simp
  with_reducible refine hK _ ?_
  clear hK K
  with_reducible refine class_opk (.string ((((((S (Lib.itoa x.a) ++ ⟨#[58]⟩) ++ vS x.b) ++ ⟨#[64]⟩) ++ S (Lib.itoa x.c)) ++ ⟨#[44]⟩))) ?_ ?_ ?_
  · exact rfl
  · intro W hW; go_simp; rw [if_neg (by omega)]; exact ⟨rfl, rfl⟩
  intro K hK
  go_simp
  with_reducible refine hK _ ?_
  clear hK K
  with_reducible refine class_opk (.pointer (some ⟨N, 3, none⟩)) ?_ ?_ ?_
  · exact rfl
  · intro W hW; go_simp
  intro K hK
  go_simp
  with_reducible refine hK _ ?_
  clear hK K
  with_reducible refine class_opk (.int .i64 x.d) ?_ ?_ ?_
  · exact rfl
  · intro W hW
    obtain ⟨g0, g1, g2, g3, g4⟩ := atFlat (Q1.out.keep (B := wq.heap.size) q2 hW)
    go_simp
  intro K hK
  go_simp
  with_reducible refine hK _ ?_
  clear hK K
  with_reducible refine class_opk (.string (S (Lib.itoa x.d))) ?_ ?_ ?_
  · exact rfl
  · intro W hW
    go_simp
    refine class_call hW ?_
    exact CD.out W (powTab_below Q3.out hW)
  intro K hK
  go_simp
  with_reducible refine hK _ ?_
  clear hK K
  with_reducible refine class_opk (.string (((((((S (Lib.itoa x.a) ++ ⟨#[58]⟩) ++ vS x.b) ++ ⟨#[64]⟩) ++ S (Lib.itoa x.c)) ++ ⟨#[44]⟩) ++ S (Lib.itoa x.d)))) ?_ ?_ ?_
  · exact rfl
  · intro W hW; go_simp; rw [if_neg (by omega)]; exact ⟨rfl, rfl⟩
  intro K hK
  go_simp
  with_reducible refine hK _ ?_
  clear hK K
  with_reducible refine class_opk (.string ((((((((S (Lib.itoa x.a) ++ ⟨#[58]⟩) ++ vS x.b) ++ ⟨#[64]⟩) ++ S (Lib.itoa x.c)) ++ ⟨#[44]⟩) ++ S (Lib.itoa x.d)) ++ ⟨#[44]⟩))) ?_ ?_ ?_
  · exact rfl
  · intro W hW; go_simp; rw [if_neg (by omega)]; exact ⟨rfl, rfl⟩
  intro K hK
  go_simp
  with_reducible refine hK _ ?_
  clear hK K
  with_reducible refine class_opk (.pointer (some ⟨N, 4, none⟩)) ?_ ?_ ?_
  · exact rfl
  · intro W hW; go_simp
  intro K hK
  go_simp
  with_reducible refine hK _ ?_
  clear hK K
  with_reducible refine class_opk (.int .i64 x.e) ?_ ?_ ?_
  · exact rfl
  · intro W hW
    obtain ⟨g0, g1, g2, g3, g4⟩ := atFlat (Q1.out.keep (B := wq.heap.size) q2 hW)
    go_simp
  intro K hK
  go_simp
  with_reducible refine hK _ ?_
  clear hK K
  with_reducible refine class_opk (.string (FM x.e)) ?_ ?_ ?_
  · exact rfl
  · intro W hW
    go_simp
    refine class_call hW ?_
    exact CE.out W (powTab_below Q3.out hW)
  intro K hK
  go_simp
  with_reducible refine hK _ ?_
  clear hK K
  with_reducible refine class_opk (.string (((((((((S (Lib.itoa x.a) ++ ⟨#[58]⟩) ++ vS x.b) ++ ⟨#[64]⟩) ++ S (Lib.itoa x.c)) ++ ⟨#[44]⟩) ++ S (Lib.itoa x.d)) ++ ⟨#[44]⟩) ++ FM x.e))) ?_ ?_ ?_
  · exact rfl
  · intro W hW; go_simp; rw [if_neg (by omega)]; exact ⟨rfl, rfl⟩
  intro K hK
  go_simp
  with_reducible refine hK _ ?_
  clear hK K
  with_reducible refine class_opk (.string (((((((((S (Lib.itoa x.a) ++ ⟨#[58]⟩) ++ vS x.b) ++ ⟨#[64]⟩) ++ S (Lib.itoa x.c)) ++ ⟨#[44]⟩) ++ S (Lib.itoa x.d)) ++ ⟨#[44]⟩) ++ FM x.e))) ?_ ?_ ?_
  · exact rfl
  · intro W hW; go_simp
  intro K hK
  go_simp
  with_reducible refine hK _ ?_
  clear hK K
  with_reducible refine class_end ?_
  intro W1 hW1
  have HB1 : Hid (Below w.heap.size w W1) := Lib.hid (HQ.out.trans (hW1.mono HQ.out.size))
  clear hW1
  go_simp
  go_wp2_with fail
  go_ret
  exact ⟨rfl, HB1.out⟩
/-! the text of a chain -/
def vl (x : Ver) : List UInt8 := (vt x).data.toList
/-- the text of the first k versions -/
def cat (l : List Ver) (k : Nat) : ByteArray := S (Lib.join ((l.take k).map vl) [32])
theorem vt_S (x : Ver) : vt x = S (vl x) := rfl
theorem S_app (a b : List UInt8) : S a ++ S b = S (a ++ b) := by
  apply ByteArray.ext
  show (S a ++ S b).data = _
  rw [ByteArray.data_append]
  show a.toArray ++ b.toArray = (a ++ b).toArray
  simp
theorem join_snoc (xs : List (List UInt8)) (x : List UInt8) (h : xs ≠ []) : Lib.join (xs ++ [x]) [32] = Lib.join xs [32] ++ ([32] ++ x) := by
  match xs, h with
  | y :: r, _ =>
    rw [List.cons_append, Lib.join_cons, Lib.join_cons]
    simp [Lib.joinTail]
theorem take_snoc {l : List Ver} {k : Nat} {x : Ver} (hx : l[k]? = some x) : l.take (k + 1) = l.take k ++ [x] := by
  have hl := lt_of_some hx
  rw [List.getElem?_eq_getElem hl] at hx
  rw [List.take_succ_eq_append_getElem hl, Option.some.inj hx]
theorem cat_zero (l : List Ver) : cat l 0 = ⟨#[]⟩ := rfl
theorem cat_first {l : List Ver} {x : Ver} {k : Nat} (hk : ¬ 0 < k) (hx : l[k]? = some x) : cat l (k + 1) = cat l k ++ vt x := by
  obtain rfl : k = 0 := by omega
  unfold cat
  rw [take_snoc hx, vt_S, S_app]
  simp [Lib.join_one, Lib.join_nil]
theorem cat_next {l : List Ver} {x : Ver} {k : Nat} (hk : 0 < k) (hx : l[k]? = some x) : cat l (k + 1) = (cat l k ++ ⟨#[32]⟩) ++ vt x := by
  unfold cat
  have hne : (l.take k).map vl ≠ [] := by
    have hl := lt_of_some hx
    intro h
    have := congrArg List.length h
    simp only [List.length_map, List.length_take, List.length_nil] at this
    omega
  rw [take_snoc hx, List.map_append, List.map_cons, List.map_nil, join_snoc _ _ hne, vt_S, show (⟨#[32]⟩ : ByteArray) = S [32] from rfl, S_app, S_app, List.append_assoc]
theorem vt_onto (s : ByteArray) (x : Ver) : ((((((((s ++ S (Lib.itoa x.a)) ++ ⟨#[58]⟩) ++ vS x.b) ++ ⟨#[64]⟩) ++ S (Lib.itoa x.c)) ++ ⟨#[44]⟩) ++ S (Lib.itoa x.d)) ++ ⟨#[44]⟩) ++ FM x.e = s ++ vt x := by
  unfold vt
  simp only [ByteArray.append_assoc]
theorem app_size (a b : ByteArray) : (a ++ b).size = a.size + b.size := ByteArray.size_append
theorem vt_size {x : Ver} (h : vP x.a x.b x.c x.d x.e) : (vt x).size ≤ 54 := by
  obtain ⟨ha, hb, hc, hd, he⟩ := wf_v h
  have z1 : (S (Lib.itoa x.a)).size ≤ 10 := by rw [S_size]; exact Go.Proofs.YtleeglgjaifejaaGreatDoor.dig.itoa_len _ (by omega) (by omega)
  have z2 : (vS x.b).size ≤ 10 := vS_size (by omega) (by omega)
  have z3 : (S (Lib.itoa x.c)).size ≤ 10 := by rw [S_size]; exact Go.Proofs.YtleeglgjaifejaaGreatDoor.dig.itoa_len _ (by omega) (by omega)
  have z4 : (S (Lib.itoa x.d)).size ≤ 10 := by rw [S_size]; exact Go.Proofs.YtleeglgjaifejaaGreatDoor.dig.itoa_len _ (by omega) (by omega)
  have z5 : (FM x.e).size ≤ 10 := FM_size _
  have e1 : (⟨#[58]⟩ : ByteArray).size = 1 := rfl
  have e2 : (⟨#[64]⟩ : ByteArray).size = 1 := rfl
  have e3 : (⟨#[44]⟩ : ByteArray).size = 1 := rfl
  unfold vt
  simp only [app_size, e1, e2, e3]
  omega
theorem ok_vP {x : Ver} (h : okV x = true) : vP x.a x.b x.c x.d x.e := of_decide_eq_true h
theorem cat_size {l : List Ver} (h : ∀ (j : Nat) (x : Ver), l[j]? = some x → okV x = true) : ∀ k, k ≤ l.length → (cat l k).size ≤ 55 * k
  | 0, _ => by rw [cat_zero]; exact Nat.le_refl 0
  | k + 1, hk => by
    have ih := cat_size h k (by omega)
    have hx : l[k]? = some l[k] := List.getElem?_eq_getElem (by omega)
    have hv := vt_size (ok_vP (h k _ hx))
    by_cases h0 : 0 < k
    · rw [cat_next h0 hx, app_size, app_size]
      have e1 : (⟨#[32]⟩ : ByteArray).size = 1 := rfl
      omega
    · rw [cat_first h0 hx, app_size]
      omega
theorem ch_pos {l : List Ver} (h : chB l = true) : 0 < l.length := by
  rcases Nat.eq_zero_or_pos l.length with h0 | h0
  · rw [ch_none h0] at h; cases h
  · exact h0
/-- the text of a list of versions: empty where it is no chain -/
noncomputable def chT (l : List Ver) : ByteArray := if chB l = true then cat l l.length else ⟨#[]⟩
theorem chT_yes {l : List Ver} {n : Nat} (hn : l.length = n) (h : chB l = true) : cat l n = chT l := by subst hn; simp [chT, h]
theorem chT_no {l : List Ver} (h : chB l = false) : (⟨#[]⟩ : ByteArray) = chT l := by simp [chT, h]
theorem str_val {a b : ByteArray} (h : a = b) : Value.string a = .string b := by rw [h]
set_option maxRecDepth 100000 in
set_option maxHeartbeats 3200000 in
theorem spec_chain_text {w : World} {B n c : Nat} {A : Option Addr} {l : List Ver} (hn : n ≤ 1048576) (h1 : Vs w B A n l) (hB : B ≤ w.heap.size) :
    Calls Tryz.prog 43 #[.slice A n c] w fun e w' => e = .returned (.string (chT l)) ∧ Below w.heap.size w w' := by
  have H1 := Lib.hid h1
  clear h1
  rcases hc : chB l with _ | _
  · have HC := Lib.hid hc
    clear hc
    go_enter Tryz.func43, Tryz.ntmps43
    go_wp2_with fail
    refine (spec_chain (by omega) H1.out hB).mono ?_
    rintro e W ⟨rfl, hb⟩
    rw [HC.out]
    have HB := Lib.hid hb
    clear hb
    go_wp2_with fail
    go_ret
    exact ⟨ret_str (chT_no HC.out), HB.out⟩
  · have HC := Lib.hid hc
    have hok := (ch_of hc).1
    have HOK := Lib.hid hok
    have hcs := cat_size hok
    have HCS := Lib.hid hcs
    clear hc hok hcs
    go_enter Tryz.func43, Tryz.ntmps43
    go_wp2_with fail
    refine (spec_chain (by omega) H1.out hB).mono ?_
    rintro e W ⟨rfl, hb⟩
    rw [HC.out]
    have HB := Lib.hid hb
    clear hb
    go_wp2_with fail
    go_loopw [3, 4] (fun s i wr => ∃ k : Nat, k ≤ n ∧ i = .int .i64 k ∧ s = .string (cat l k) ∧ Below w.heap.size w wr) (fun _ i _ => n - (intOf i).toNat)
    case atStart => exact ⟨0, by omega, rfl, rfl, HB.out⟩
    case round =>
      obtain ⟨k, hk, rfl, rfl, hb⟩ := hrel
      by_cases hlt : k < n
      · obtain ⟨b, o, x, rfl, hbB, hx, a0, a1, a2, a3, a4⟩ := (H1.out.below (below_le hb hB)).at_ hlt
        have hv := ok_vP (HOK.out k x hx)
        obtain ⟨ha, hvb, hcc, hd, he⟩ := wf_v hv
        have CA := Lib.hid (fun W => spec_fmt x.a W (by omega) (by omega))
        have CB := Lib.hid (fun W => spec_val x.b W (by omega) (by omega))
        have CC := Lib.hid (fun W => spec_fmt x.c W (by omega) (by omega))
        have CD := Lib.hid (fun W => spec_fmt x.d W (by omega) (by omega))
        have CE := Lib.hid (fun W => spec_fm x.e W (by omega) (by omega))
        have z1 : (S (Lib.itoa x.a)).size ≤ 10 := by rw [S_size]; exact Go.Proofs.YtleeglgjaifejaaGreatDoor.dig.itoa_len _ (by omega) (by omega)
        have z2 : (vS x.b).size ≤ 10 := vS_size (by omega) (by omega)
        have z3 : (S (Lib.itoa x.c)).size ≤ 10 := by rw [S_size]; exact Go.Proofs.YtleeglgjaifejaaGreatDoor.dig.itoa_len _ (by omega) (by omega)
        have z4 : (S (Lib.itoa x.d)).size ≤ 10 := by rw [S_size]; exact Go.Proofs.YtleeglgjaifejaaGreatDoor.dig.itoa_len _ (by omega) (by omega)
        have z5 : (FM x.e).size ≤ 10 := FM_size _
        have z6 : (cat l k).size ≤ 55 * k := HCS.out k (by have := H1.out.1; omega)
        have q1 : At wr b (o + k * 5) x := ⟨a0, a1, a2, a3, a4⟩
        have hbw : b < wr.heap.size := by have := hb.size; omega
        have Q1 := Lib.hid q1
        have HBR := Lib.hid hb
        have HX := Lib.hid hx
        have i1 : (0 : Int) ≤ (k : Int) := by omega
        have i2 : (k : Int) < (n : Int) := by omega
        clear ha hvb hcc hd he hv a0 a1 a2 a3 a4 q1 hb hx
        by_cases h0 : 0 < k
        · have t : decide (0 < k) = true := decide_eq_true h0
          go_wp2_with fail
          refine class_region wr.heap.size (by kernel_rfl) (by kernel_rfl) ?_
          with_reducible refine class_opk (.string (cat l k ++ ⟨#[32]⟩)) ?_ ?_ ?_
          · exact rfl
          · intro W hW; go_simp
          intro K hK
          go_simp
          with_reducible refine hK _ ?_
          clear hK K
          with_reducible refine class_opk (.slice (some ⟨b, o, none⟩) n c) ?_ ?_ ?_
          · exact rfl
          · intro W hW; go_simp
          intro K hK
          go_simp
          with_reducible refine hK _ ?_
          clear hK K
          with_reducible refine class_opk (.int .i64 k) ?_ ?_ ?_
          · exact rfl
          · intro W hW; go_simp
          intro K hK
          go_simp
          with_reducible refine hK _ ?_
          clear hK K
          with_reducible refine class_opk (.pointer (some ⟨b, o + k * 5, none⟩)) ?_ ?_ ?_
          · exact rfl
          · intro W hW; go_simp
          intro K hK
          go_simp
          with_reducible refine hK _ ?_
          clear hK K
          with_reducible refine class_opk (.pointer (some ⟨b, o + k * 5, none⟩)) ?_ ?_ ?_
          · exact rfl
          · intro W hW; go_simp
          intro K hK
          go_simp
          with_reducible refine hK _ ?_
          clear hK K
          with_reducible refine class_opk (.int .i64 x.a) ?_ ?_ ?_
          · exact rfl
          · intro W hW
            obtain ⟨g0, g1, g2, g3, g4⟩ := Q1.out.keep (B := wr.heap.size) hbw hW
            go_simp
          intro K hK
          go_simp
          with_reducible refine hK _ ?_
          clear hK K
          with_reducible refine class_opk (.string (S (Lib.itoa x.a))) ?_ ?_ ?_
          · exact rfl
          · intro W hW
            go_simp
            refine class_call hW ?_
            exact CA.out W
          intro K hK
          go_simp
          with_reducible refine hK _ ?_
          clear hK K
          with_reducible refine class_opk (.string ((cat l k ++ ⟨#[32]⟩) ++ S (Lib.itoa x.a))) ?_ ?_ ?_
          · exact rfl
          · intro W hW; go_simp; rw [if_neg (by omega)]; exact ⟨rfl, rfl⟩
          intro K hK
          go_simp
          with_reducible refine hK _ ?_
          clear hK K
          with_reducible refine class_opk (.string (((cat l k ++ ⟨#[32]⟩) ++ S (Lib.itoa x.a)) ++ ⟨#[58]⟩)) ?_ ?_ ?_
          · exact rfl
          · intro W hW; go_simp; rw [if_neg (by omega)]; exact ⟨rfl, rfl⟩
          intro K hK
          go_simp
          with_reducible refine hK _ ?_
          clear hK K
          with_reducible refine class_opk (.slice (some ⟨b, o, none⟩) n c) ?_ ?_ ?_
          · exact rfl
          · intro W hW; go_simp
          intro K hK
          go_simp
          with_reducible refine hK _ ?_
          clear hK K
          with_reducible refine class_opk (.int .i64 k) ?_ ?_ ?_
          · exact rfl
          · intro W hW; go_simp
          intro K hK
          go_simp
          with_reducible refine hK _ ?_
          clear hK K
          with_reducible refine class_opk (.pointer (some ⟨b, o + k * 5, none⟩)) ?_ ?_ ?_
          · exact rfl
          · intro W hW; go_simp
          intro K hK
          go_simp
          with_reducible refine hK _ ?_
          clear hK K
          with_reducible refine class_opk (.pointer (some ⟨b, o + k * 5 + 1, none⟩)) ?_ ?_ ?_
          · exact rfl
          · intro W hW; go_simp
          intro K hK
          go_simp
          with_reducible refine hK _ ?_
          clear hK K
          with_reducible refine class_opk (.int .i64 x.b) ?_ ?_ ?_
          · exact rfl
          · intro W hW
            obtain ⟨g0, g1, g2, g3, g4⟩ := Q1.out.keep (B := wr.heap.size) hbw hW
            go_simp
          intro K hK
          go_simp
          with_reducible refine hK _ ?_
          clear hK K
          with_reducible refine class_opk (.string (vS x.b)) ?_ ?_ ?_
          · exact rfl
          · intro W hW
            go_simp
            refine class_call hW ?_
            exact CB.out W
          intro K hK
          go_simp
          with_reducible refine hK _ ?_
          clear hK K
          with_reducible refine class_opk (.string ((((cat l k ++ ⟨#[32]⟩) ++ S (Lib.itoa x.a)) ++ ⟨#[58]⟩) ++ vS x.b)) ?_ ?_ ?_
          · exact rfl
          · intro W hW; go_simp; rw [if_neg (by omega)]; exact ⟨rfl, rfl⟩
          intro K hK
          go_simp
          with_reducible refine hK _ ?_
          clear hK K
          with_reducible refine class_opk (.string (((((cat l k ++ ⟨#[32]⟩) ++ S (Lib.itoa x.a)) ++ ⟨#[58]⟩) ++ vS x.b) ++ ⟨#[64]⟩)) ?_ ?_ ?_
          · exact rfl
          · intro W hW; go_simp; rw [if_neg (by omega)]; exact ⟨rfl, rfl⟩
          intro K hK
          go_simp
          with_reducible refine hK _ ?_
          clear hK K
          with_reducible refine class_opk (.slice (some ⟨b, o, none⟩) n c) ?_ ?_ ?_
          · exact rfl
          · intro W hW; go_simp
          intro K hK
          go_simp
          with_reducible refine hK _ ?_
          clear hK K
          with_reducible refine class_opk (.int .i64 k) ?_ ?_ ?_
          · exact rfl
          · intro W hW; go_simp
          intro K hK
          go_simp
          with_reducible refine hK _ ?_
          clear hK K
          with_reducible refine class_opk (.pointer (some ⟨b, o + k * 5, none⟩)) ?_ ?_ ?_
          · exact rfl
          · intro W hW; go_simp
          intro K hK
          go_simp
          with_reducible refine hK _ ?_
          clear hK K
          with_reducible refine class_opk (.pointer (some ⟨b, o + k * 5 + 2, none⟩)) ?_ ?_ ?_
          · exact rfl
          · intro W hW; go_simp
          intro K hK
          go_simp
          with_reducible refine hK _ ?_
          clear hK K
          with_reducible refine class_opk (.int .i64 x.c) ?_ ?_ ?_
          · exact rfl
          · intro W hW
            obtain ⟨g0, g1, g2, g3, g4⟩ := Q1.out.keep (B := wr.heap.size) hbw hW
            go_simp
          intro K hK
          go_simp
          with_reducible refine hK _ ?_
          clear hK K
          with_reducible refine class_opk (.string (S (Lib.itoa x.c))) ?_ ?_ ?_
          · exact rfl
          · intro W hW
            go_simp
            refine class_call hW ?_
            exact CC.out W
          intro K hK
          go_simp
          with_reducible refine hK _ ?_
          clear hK K
          with_reducible refine class_opk (.string ((((((cat l k ++ ⟨#[32]⟩) ++ S (Lib.itoa x.a)) ++ ⟨#[58]⟩) ++ vS x.b) ++ ⟨#[64]⟩) ++ S (Lib.itoa x.c))) ?_ ?_ ?_
          · exact rfl
          · intro W hW; go_simp; rw [if_neg (by omega)]; exact ⟨rfl, rfl⟩
          intro K hK
          go_simp
          with_reducible refine hK _ ?_
          clear hK K
          with_reducible refine class_opk (.string (((((((cat l k ++ ⟨#[32]⟩) ++ S (Lib.itoa x.a)) ++ ⟨#[58]⟩) ++ vS x.b) ++ ⟨#[64]⟩) ++ S (Lib.itoa x.c)) ++ ⟨#[44]⟩)) ?_ ?_ ?_
          · exact rfl
          · intro W hW; go_simp; rw [if_neg (by omega)]; exact ⟨rfl, rfl⟩
          intro K hK
          go_simp
          with_reducible refine hK _ ?_
          clear hK K
          with_reducible refine class_opk (.slice (some ⟨b, o, none⟩) n c) ?_ ?_ ?_
          · exact rfl
          · intro W hW; go_simp
          intro K hK
          go_simp
          with_reducible refine hK _ ?_
          clear hK K
          with_reducible refine class_opk (.int .i64 k) ?_ ?_ ?_
          · exact rfl
          · intro W hW; go_simp
          intro K hK
          go_simp
          with_reducible refine hK _ ?_
          clear hK K
          with_reducible refine class_opk (.pointer (some ⟨b, o + k * 5, none⟩)) ?_ ?_ ?_
          · exact rfl
          · intro W hW; go_simp
          intro K hK
          go_simp
          with_reducible refine hK _ ?_
          clear hK K
          with_reducible refine class_opk (.pointer (some ⟨b, o + k * 5 + 3, none⟩)) ?_ ?_ ?_
          · exact rfl
          · intro W hW; go_simp
          intro K hK
          go_simp
          with_reducible refine hK _ ?_
          clear hK K
          with_reducible refine class_opk (.int .i64 x.d) ?_ ?_ ?_
          · exact rfl
          · intro W hW
            obtain ⟨g0, g1, g2, g3, g4⟩ := Q1.out.keep (B := wr.heap.size) hbw hW
            go_simp
          intro K hK
          go_simp
          with_reducible refine hK _ ?_
          clear hK K
          with_reducible refine class_opk (.string (S (Lib.itoa x.d))) ?_ ?_ ?_
          · exact rfl
          · intro W hW
            go_simp
            refine class_call hW ?_
            exact CD.out W
          intro K hK
          go_simp
          with_reducible refine hK _ ?_
          clear hK K
          with_reducible refine class_opk (.string ((((((((cat l k ++ ⟨#[32]⟩) ++ S (Lib.itoa x.a)) ++ ⟨#[58]⟩) ++ vS x.b) ++ ⟨#[64]⟩) ++ S (Lib.itoa x.c)) ++ ⟨#[44]⟩) ++ S (Lib.itoa x.d))) ?_ ?_ ?_
          · exact rfl
          · intro W hW; go_simp; rw [if_neg (by omega)]; exact ⟨rfl, rfl⟩
          intro K hK
          go_simp
          with_reducible refine hK _ ?_
          clear hK K
          with_reducible refine class_opk (.string (((((((((cat l k ++ ⟨#[32]⟩) ++ S (Lib.itoa x.a)) ++ ⟨#[58]⟩) ++ vS x.b) ++ ⟨#[64]⟩) ++ S (Lib.itoa x.c)) ++ ⟨#[44]⟩) ++ S (Lib.itoa x.d)) ++ ⟨#[44]⟩)) ?_ ?_ ?_
          · exact rfl
          · intro W hW; go_simp; rw [if_neg (by omega)]; exact ⟨rfl, rfl⟩
          intro K hK
          go_simp
          with_reducible refine hK _ ?_
          clear hK K
          with_reducible refine class_opk (.slice (some ⟨b, o, none⟩) n c) ?_ ?_ ?_
          · exact rfl
          · intro W hW; go_simp
          intro K hK
          go_simp
          with_reducible refine hK _ ?_
          clear hK K
          with_reducible refine class_opk (.int .i64 k) ?_ ?_ ?_
          · exact rfl
          · intro W hW; go_simp
          intro K hK
          go_simp
          with_reducible refine hK _ ?_
          clear hK K
          with_reducible refine class_opk (.pointer (some ⟨b, o + k * 5, none⟩)) ?_ ?_ ?_
          · exact rfl
          · intro W hW; go_simp
          intro K hK
          go_simp
          with_reducible refine hK _ ?_
          clear hK K
          with_reducible refine class_opk (.pointer (some ⟨b, o + k * 5 + 4, none⟩)) ?_ ?_ ?_
          · exact rfl
          · intro W hW; go_simp
          intro K hK
          go_simp
          with_reducible refine hK _ ?_
          clear hK K
          with_reducible refine class_opk (.int .i64 x.e) ?_ ?_ ?_
          · exact rfl
          · intro W hW
            obtain ⟨g0, g1, g2, g3, g4⟩ := Q1.out.keep (B := wr.heap.size) hbw hW
            go_simp
          intro K hK
          go_simp
          with_reducible refine hK _ ?_
          clear hK K
          with_reducible refine class_opk (.string (FM x.e)) ?_ ?_ ?_
          · exact rfl
          · intro W hW
            go_simp
            refine class_call hW ?_
            exact CE.out W
          intro K hK
          go_simp
          with_reducible refine hK _ ?_
          clear hK K
          with_reducible refine class_opk (.string ((((((((((cat l k ++ ⟨#[32]⟩) ++ S (Lib.itoa x.a)) ++ ⟨#[58]⟩) ++ vS x.b) ++ ⟨#[64]⟩) ++ S (Lib.itoa x.c)) ++ ⟨#[44]⟩) ++ S (Lib.itoa x.d)) ++ ⟨#[44]⟩) ++ FM x.e)) ?_ ?_ ?_
          · exact rfl
          · intro W hW; go_simp; rw [if_neg (by omega)]; exact ⟨rfl, rfl⟩
          intro K hK
          go_simp
          with_reducible refine hK _ ?_
          clear hK K
          with_reducible refine class_opk (.string ((((((((((cat l k ++ ⟨#[32]⟩) ++ S (Lib.itoa x.a)) ++ ⟨#[58]⟩) ++ vS x.b) ++ ⟨#[64]⟩) ++ S (Lib.itoa x.c)) ++ ⟨#[44]⟩) ++ S (Lib.itoa x.d)) ++ ⟨#[44]⟩) ++ FM x.e)) ?_ ?_ ?_
          · exact rfl
          · intro W hW; go_simp
          intro K hK
          go_simp
          with_reducible refine hK _ ?_
          clear hK K
          with_reducible refine class_end ?_
          intro W1 hW1
          have HB1 : Hid (Below w.heap.size w W1) := Lib.hid (HBR.out.trans (hW1.mono HBR.out.size))
          clear hW1
          go_simp
          go_wp2_with fail
          go_roundw
          case rel => exact ⟨k + 1, by omega, by go_num, str_val (by rw [cat_next h0 HX.out, vt_onto]), HB1.out⟩
          case measure => simp [intOf]; omega
        · have t : decide (0 < k) = false := decide_eq_false h0
          go_wp2_with fail
          refine class_region wr.heap.size (by kernel_rfl) (by kernel_rfl) ?_
          with_reducible refine class_opk (.string (cat l k)) ?_ ?_ ?_
          · exact rfl
          · intro W hW; go_simp
          intro K hK
          go_simp
          with_reducible refine hK _ ?_
          clear hK K
          with_reducible refine class_opk (.slice (some ⟨b, o, none⟩) n c) ?_ ?_ ?_
          · exact rfl
          · intro W hW; go_simp
          intro K hK
          go_simp
          with_reducible refine hK _ ?_
          clear hK K
          with_reducible refine class_opk (.int .i64 k) ?_ ?_ ?_
          · exact rfl
          · intro W hW; go_simp
          intro K hK
          go_simp
          with_reducible refine hK _ ?_
          clear hK K
          with_reducible refine class_opk (.pointer (some ⟨b, o + k * 5, none⟩)) ?_ ?_ ?_
          · exact rfl
          · intro W hW; go_simp
          intro K hK
          go_simp
          with_reducible refine hK _ ?_
          clear hK K
          with_reducible refine class_opk (.pointer (some ⟨b, o + k * 5, none⟩)) ?_ ?_ ?_
          · exact rfl
          · intro W hW; go_simp
          intro K hK
          go_simp
          with_reducible refine hK _ ?_
          clear hK K
          with_reducible refine class_opk (.int .i64 x.a) ?_ ?_ ?_
          · exact rfl
          · intro W hW
            obtain ⟨g0, g1, g2, g3, g4⟩ := Q1.out.keep (B := wr.heap.size) hbw hW
            go_simp
          intro K hK
          go_simp
          with_reducible refine hK _ ?_
          clear hK K
          with_reducible refine class_opk (.string (S (Lib.itoa x.a))) ?_ ?_ ?_
          · exact rfl
          · intro W hW
            go_simp
            refine class_call hW ?_
            exact CA.out W
          intro K hK
          go_simp
          with_reducible refine hK _ ?_
          clear hK K
          with_reducible refine class_opk (.string ((cat l k) ++ S (Lib.itoa x.a))) ?_ ?_ ?_
          · exact rfl
          · intro W hW; go_simp; rw [if_neg (by omega)]; exact ⟨rfl, rfl⟩
          intro K hK
          go_simp
          with_reducible refine hK _ ?_
          clear hK K
          with_reducible refine class_opk (.string (((cat l k) ++ S (Lib.itoa x.a)) ++ ⟨#[58]⟩)) ?_ ?_ ?_
          · exact rfl
          · intro W hW; go_simp; rw [if_neg (by omega)]; exact ⟨rfl, rfl⟩
          intro K hK
          go_simp
          with_reducible refine hK _ ?_
          clear hK K
          with_reducible refine class_opk (.slice (some ⟨b, o, none⟩) n c) ?_ ?_ ?_
          · exact rfl
          · intro W hW; go_simp
          intro K hK
          go_simp
          with_reducible refine hK _ ?_
          clear hK K
          with_reducible refine class_opk (.int .i64 k) ?_ ?_ ?_
          · exact rfl
          · intro W hW; go_simp
          intro K hK
          go_simp
          with_reducible refine hK _ ?_
          clear hK K
          with_reducible refine class_opk (.pointer (some ⟨b, o + k * 5, none⟩)) ?_ ?_ ?_
          · exact rfl
          · intro W hW; go_simp
          intro K hK
          go_simp
          with_reducible refine hK _ ?_
          clear hK K
          with_reducible refine class_opk (.pointer (some ⟨b, o + k * 5 + 1, none⟩)) ?_ ?_ ?_
          · exact rfl
          · intro W hW; go_simp
          intro K hK
          go_simp
          with_reducible refine hK _ ?_
          clear hK K
          with_reducible refine class_opk (.int .i64 x.b) ?_ ?_ ?_
          · exact rfl
          · intro W hW
            obtain ⟨g0, g1, g2, g3, g4⟩ := Q1.out.keep (B := wr.heap.size) hbw hW
            go_simp
          intro K hK
          go_simp
          with_reducible refine hK _ ?_
          clear hK K
          with_reducible refine class_opk (.string (vS x.b)) ?_ ?_ ?_
          · exact rfl
          · intro W hW
            go_simp
            refine class_call hW ?_
            exact CB.out W
          intro K hK
          go_simp
          with_reducible refine hK _ ?_
          clear hK K
          with_reducible refine class_opk (.string ((((cat l k) ++ S (Lib.itoa x.a)) ++ ⟨#[58]⟩) ++ vS x.b)) ?_ ?_ ?_
          · exact rfl
          · intro W hW; go_simp; rw [if_neg (by omega)]; exact ⟨rfl, rfl⟩
          intro K hK
          go_simp
          with_reducible refine hK _ ?_
          clear hK K
          with_reducible refine class_opk (.string (((((cat l k) ++ S (Lib.itoa x.a)) ++ ⟨#[58]⟩) ++ vS x.b) ++ ⟨#[64]⟩)) ?_ ?_ ?_
          · exact rfl
          · intro W hW; go_simp; rw [if_neg (by omega)]; exact ⟨rfl, rfl⟩
          intro K hK
          go_simp
          with_reducible refine hK _ ?_
          clear hK K
          with_reducible refine class_opk (.slice (some ⟨b, o, none⟩) n c) ?_ ?_ ?_
          · exact rfl
          · intro W hW; go_simp
          intro K hK
          go_simp
          with_reducible refine hK _ ?_
          clear hK K
          with_reducible refine class_opk (.int .i64 k) ?_ ?_ ?_
          · exact rfl
          · intro W hW; go_simp
          intro K hK
          go_simp
          with_reducible refine hK _ ?_
          clear hK K
          with_reducible refine class_opk (.pointer (some ⟨b, o + k * 5, none⟩)) ?_ ?_ ?_
          · exact rfl
          · intro W hW; go_simp
          intro K hK
          go_simp
          with_reducible refine hK _ ?_
          clear hK K
          with_reducible refine class_opk (.pointer (some ⟨b, o + k * 5 + 2, none⟩)) ?_ ?_ ?_
          · exact rfl
          · intro W hW; go_simp
          intro K hK
          go_simp
          with_reducible refine hK _ ?_
          clear hK K
          with_reducible refine class_opk (.int .i64 x.c) ?_ ?_ ?_
          · exact rfl
          · intro W hW
            obtain ⟨g0, g1, g2, g3, g4⟩ := Q1.out.keep (B := wr.heap.size) hbw hW
            go_simp
          intro K hK
          go_simp
          with_reducible refine hK _ ?_
          clear hK K
          with_reducible refine class_opk (.string (S (Lib.itoa x.c))) ?_ ?_ ?_
          · exact rfl
          · intro W hW
            go_simp
            refine class_call hW ?_
            exact CC.out W
          intro K hK
          go_simp
          with_reducible refine hK _ ?_
          clear hK K
          with_reducible refine class_opk (.string ((((((cat l k) ++ S (Lib.itoa x.a)) ++ ⟨#[58]⟩) ++ vS x.b) ++ ⟨#[64]⟩) ++ S (Lib.itoa x.c))) ?_ ?_ ?_
          · exact rfl
          · intro W hW; go_simp; rw [if_neg (by omega)]; exact ⟨rfl, rfl⟩
          intro K hK
          go_simp
          with_reducible refine hK _ ?_
          clear hK K
          with_reducible refine class_opk (.string (((((((cat l k) ++ S (Lib.itoa x.a)) ++ ⟨#[58]⟩) ++ vS x.b) ++ ⟨#[64]⟩) ++ S (Lib.itoa x.c)) ++ ⟨#[44]⟩)) ?_ ?_ ?_
          · exact rfl
          · intro W hW; go_simp; rw [if_neg (by omega)]; exact ⟨rfl, rfl⟩
          intro K hK
          go_simp
          with_reducible refine hK _ ?_
          clear hK K
          with_reducible refine class_opk (.slice (some ⟨b, o, none⟩) n c) ?_ ?_ ?_
          · exact rfl
          · intro W hW; go_simp
          intro K hK
          go_simp
          with_reducible refine hK _ ?_
          clear hK K
          with_reducible refine class_opk (.int .i64 k) ?_ ?_ ?_
          · exact rfl
          · intro W hW; go_simp
          intro K hK
          go_simp
          with_reducible refine hK _ ?_
          clear hK K
          with_reducible refine class_opk (.pointer (some ⟨b, o + k * 5, none⟩)) ?_ ?_ ?_
          · exact rfl
          · intro W hW; go_simp
          intro K hK
          go_simp
          with_reducible refine hK _ ?_
          clear hK K
          with_reducible refine class_opk (.pointer (some ⟨b, o + k * 5 + 3, none⟩)) ?_ ?_ ?_
          · exact rfl
          · intro W hW; go_simp
          intro K hK
          go_simp
          with_reducible refine hK _ ?_
          clear hK K
          with_reducible refine class_opk (.int .i64 x.d) ?_ ?_ ?_
          · exact rfl
          · intro W hW
            obtain ⟨g0, g1, g2, g3, g4⟩ := Q1.out.keep (B := wr.heap.size) hbw hW
            go_simp
          intro K hK
          go_simp
          with_reducible refine hK _ ?_
          clear hK K
          with_reducible refine class_opk (.string (S (Lib.itoa x.d))) ?_ ?_ ?_
          · exact rfl
          · intro W hW
            go_simp
            refine class_call hW ?_
            exact CD.out W
          intro K hK
          go_simp
          with_reducible refine hK _ ?_
          clear hK K
          with_reducible refine class_opk (.string ((((((((cat l k) ++ S (Lib.itoa x.a)) ++ ⟨#[58]⟩) ++ vS x.b) ++ ⟨#[64]⟩) ++ S (Lib.itoa x.c)) ++ ⟨#[44]⟩) ++ S (Lib.itoa x.d))) ?_ ?_ ?_
          · exact rfl
          · intro W hW; go_simp; rw [if_neg (by omega)]; exact ⟨rfl, rfl⟩
          intro K hK
          go_simp
          with_reducible refine hK _ ?_
          clear hK K
          with_reducible refine class_opk (.string (((((((((cat l k) ++ S (Lib.itoa x.a)) ++ ⟨#[58]⟩) ++ vS x.b) ++ ⟨#[64]⟩) ++ S (Lib.itoa x.c)) ++ ⟨#[44]⟩) ++ S (Lib.itoa x.d)) ++ ⟨#[44]⟩)) ?_ ?_ ?_
          · exact rfl
          · intro W hW; go_simp; rw [if_neg (by omega)]; exact ⟨rfl, rfl⟩
          intro K hK
          go_simp
          with_reducible refine hK _ ?_
          clear hK K
          with_reducible refine class_opk (.slice (some ⟨b, o, none⟩) n c) ?_ ?_ ?_
          · exact rfl
          · intro W hW; go_simp
          intro K hK
          go_simp
          with_reducible refine hK _ ?_
          clear hK K
          with_reducible refine class_opk (.int .i64 k) ?_ ?_ ?_
          · exact rfl
          · intro W hW; go_simp
          intro K hK
          go_simp
          with_reducible refine hK _ ?_
          clear hK K
          with_reducible refine class_opk (.pointer (some ⟨b, o + k * 5, none⟩)) ?_ ?_ ?_
          · exact rfl
          · intro W hW; go_simp
          intro K hK
          go_simp
          with_reducible refine hK _ ?_
          clear hK K
          with_reducible refine class_opk (.pointer (some ⟨b, o + k * 5 + 4, none⟩)) ?_ ?_ ?_
          · exact rfl
          · intro W hW; go_simp
          intro K hK
          go_simp
          with_reducible refine hK _ ?_
          clear hK K
          with_reducible refine class_opk (.int .i64 x.e) ?_ ?_ ?_
          · exact rfl
          · intro W hW
            obtain ⟨g0, g1, g2, g3, g4⟩ := Q1.out.keep (B := wr.heap.size) hbw hW
            go_simp
          intro K hK
          go_simp
          with_reducible refine hK _ ?_
          clear hK K
          with_reducible refine class_opk (.string (FM x.e)) ?_ ?_ ?_
          · exact rfl
          · intro W hW
            go_simp
            refine class_call hW ?_
            exact CE.out W
          intro K hK
          go_simp
          with_reducible refine hK _ ?_
          clear hK K
          with_reducible refine class_opk (.string ((((((((((cat l k) ++ S (Lib.itoa x.a)) ++ ⟨#[58]⟩) ++ vS x.b) ++ ⟨#[64]⟩) ++ S (Lib.itoa x.c)) ++ ⟨#[44]⟩) ++ S (Lib.itoa x.d)) ++ ⟨#[44]⟩) ++ FM x.e)) ?_ ?_ ?_
          · exact rfl
          · intro W hW; go_simp; rw [if_neg (by omega)]; exact ⟨rfl, rfl⟩
          intro K hK
          go_simp
          with_reducible refine hK _ ?_
          clear hK K
          with_reducible refine class_opk (.string ((((((((((cat l k) ++ S (Lib.itoa x.a)) ++ ⟨#[58]⟩) ++ vS x.b) ++ ⟨#[64]⟩) ++ S (Lib.itoa x.c)) ++ ⟨#[44]⟩) ++ S (Lib.itoa x.d)) ++ ⟨#[44]⟩) ++ FM x.e)) ?_ ?_ ?_
          · exact rfl
          · intro W hW; go_simp
          intro K hK
          go_simp
          with_reducible refine hK _ ?_
          clear hK K
          with_reducible refine class_end ?_
          intro W1 hW1
          have HB1 : Hid (Below w.heap.size w W1) := Lib.hid (HBR.out.trans (hW1.mono HBR.out.size))
          clear hW1
          go_simp
          go_wp2_with fail
          go_roundw
          case rel => exact ⟨k + 1, by omega, by go_num, str_val (by rw [cat_first h0 HX.out, vt_onto]), HB1.out⟩
          case measure => simp [intOf]; omega
      · have HB1 := Lib.hid hb
        clear hb
        go_wp2_with fail
        go_ret
        have e : k = n := by omega
        exact ⟨ret_str (by rw [e]; exact chT_yes H1.out.1 HC.out), HB1.out⟩
theorem str_info : (Tryz.prog.info? 9).map (fun i => (i.zero, i.size, i.bytes)) = some (some (.string ⟨#[]⟩), 1, 16) := by kernel_rfl
theorem make_strings (n : Nat) (hn : n ≤ 1048576) (w : World) : ∃ C : Array Value, C.size = n ∧
    (Instr.makeSlice 48 (.int .i64 0) (.int .i64 (n : Int))).run Tryz.prog w = .ok (.slice (some ⟨w.heap.size, 0, none⟩) 0 n) (w.alloc (.cells C 9)) := by
  obtain ⟨i0, hi, hz0, hz1, hz2⟩ := info_parts str_info
  have hr := run_make (P := Tryz.prog) w 48 9 i0 _ Tryz.underlying48 hi hz0 .i64 .i64 0 n (by omega) (by omega) (by rw [hz2]; omega) (by omega)
  simp only [Int.toNat_zero, Int.toNat_natCast, hz1] at hr
  exact ⟨_, by simp [size_madeCells], hr⟩
theorem cell_one (w : World) (v : Value) (t : TypeId) : ∀ (j : Nat) (u : Value), [v][j]? = some u → (w.alloc (.cells #[v] t)).cell? ((⟨w.heap.size, 0, none⟩ : Addr).add j) = some u := by
  intro j u hu
  match j, hu with
  | 0, hu =>
    simp at hu
    subst hu
    exact World.cell?_alloc_mark w _ t _ 0
theorem take_map_snoc {l : List Ver} {k : Nat} {x : Ver} (hx : l[k]? = some x) : (l.map fun x => Value.string (vt x)).take (k + 1) = (l.map fun x => Value.string (vt x)).take k ++ [Value.string (vt x)] := by
  rw [← List.map_take, ← List.map_take, take_snoc hx, List.map_append]
  rfl
theorem join_call {w : World} {base k : Nat} {v : Value} {l : List Ver} (hk : 0 < k) (hk2 : k ≤ 1048576) (hl : l.length = k) (hs : (cat l k).size ≤ 55 * k) (h : w.ownsRow base 9 1 v k (l.map fun x => Value.string (vt x))) :
    Calls Tryz.prog 32 #[v, .string ⟨#[32]⟩] w fun e w' => e = .returned (.string (cat l k)) ∧ Below w.heap.size w w' := by
  rcases h.2 with ⟨_, h0⟩ | ⟨g, cap, cur, rfl, hbg, hgg, hkc, hcm, hsz, htake⟩
  · omega
  have hlt : g < w.heap.size := by
    rcases Nat.lt_or_ge g w.heap.size with h' | h'
    · exact h'
    · rw [Array.getElem?_eq_none h'] at hgg; cases hgg
  have hcells : ∀ (j : Nat) (x : ByteArray), (l.map vt)[j]? = some x → w.cell? ⟨g, 0 + j, none⟩ = some (.string x) := by
    intro j x hx
    have := h.cells (g := g) rfl j (.string x) (by
      rw [List.getElem?_map] at hx ⊢
      cases hlj : l[j]? with
      | none => rw [hlj] at hx; cases hx
      | some y => rw [hlj] at hx; simp only [Option.map_some, Option.some.injEq] at hx ⊢; rw [hx])
    rw [← this]
    congr 1
    unfold Addr.add
    split <;> simp_all
  have hjl : Lib.join ((l.map vt).map (·.data.toList)) [32] = Lib.join ((l.take k).map vl) [32] := by
    rw [List.map_map, List.take_of_length_le (by omega)]
    rfl
  have hlen : (Lib.join ((l.map vt).map (·.data.toList)) [32]).length ≤ 140737488355328 := by
    rw [hjl]
    have : (cat l k).size = (Lib.join ((l.take k).map vl) [32]).length := S_size _
    omega
  have hj := Tryz.strings_Join g 0 cap (l.map vt) ⟨#[32]⟩ w hcells hlt (by simp; omega) (by simp; omega) hlen
  rw [List.length_map, hl] at hj
  refine hj.mono fun e w' hh => ⟨?_, hh.2⟩
  rw [hh.1]
  show Ending.returned (.string (S (Lib.join ((l.map vt).map (·.data.toList)) [32]))) = _
  rw [hjl]
  rfl
theorem own_below {w w' : World} {base n size : Nat} {e : TypeId} {v : Value} {xs : List Value} (h : w.ownsRow base e size v n xs) (hb : Below w.heap.size w w') : w'.ownsRow base e size v n xs :=
  h.kept (row := none) ⟨hb.os, hb.tape, hb.output, hb.size, fun i hi _ => hb.block i hi⟩ (by cases v.ownBlock <;> simp)
theorem one_str (s : ByteArray) : ∀ u ∈ [Value.string s], u.oneCell' = true := by
  intro u hu
  simp at hu
  subst hu
  rfl
set_option maxRecDepth 100000 in
set_option maxHeartbeats 3200000 in
theorem impl_chain_text {w : World} {B n c : Nat} {A : Option Addr} {l : List Ver} (hn : n ≤ 1048576) (h1 : Vs w B A n l) (hB : B ≤ w.heap.size) (htab : Pow w) :
    Calls Tryz.prog 14 #[.slice A n c] w fun e w' => e = .returned (.string (chT l)) ∧ Below w.heap.size w w' := by
  have H1 := Lib.hid h1
  have HT := Lib.hid htab
  clear h1 htab
  rcases hc : chB l with _ | _
  · have HC := Lib.hid hc
    clear hc
    go_enter Tryz.func14, Tryz.ntmps14
    go_wp2_with fail
    refine (impl_chain (by omega) H1.out hB).mono ?_
    rintro e W ⟨rfl, hb⟩
    rw [HC.out]
    have HB := Lib.hid hb
    clear hb
    go_wp2_with fail
    go_ret
    exact ⟨ret_str (chT_no HC.out), HB.out⟩
  · have HC := Lib.hid hc
    have hok := (ch_of hc).1
    have HOK := Lib.hid hok
    have hcs := cat_size hok
    have HCS := Lib.hid hcs
    clear hc hok hcs
    obtain ⟨i0, hi, hz0, hz1, hz2⟩ := info_parts str_info
    go_enter Tryz.func14, Tryz.ntmps14
    go_wp2_with fail
    refine (impl_chain (by omega) H1.out hB).mono ?_
    rintro e W ⟨rfl, hb⟩
    rw [HC.out]
    obtain ⟨C, hC, hmk⟩ := make_strings n hn W
    have HB := Lib.hid hb
    have HI := Lib.hid hi
    have HZ0 := Lib.hid hz0
    have HZ1 := Lib.hid hz1
    have HZ2 := Lib.hid hz2
    clear hb hi hz0 hz1 hz2
    go_wp2_with fail
    clear hmk
    have ho := World.ownsRow_made (base := w.heap.size) (e := 9) (size := 1) W C n HB.out.size (by unfold maxLen; omega) (by omega)
    have hb0 := HB.out.trans ((new1 W (.cells C 9)).mono HB.out.size)
    obtain ⟨v0, hv0⟩ : ∃ v, v = Value.slice (some ⟨W.heap.size, 0, none⟩) 0 n := ⟨_, rfl⟩
    rw [← hv0] at ho ⊢
    clear hv0
    generalize W.alloc (.cells C 9) = W0 at ho hb0 ⊢
    go_loopw [3, 14] (fun v i wr => ∃ k : Nat, k ≤ n ∧ i = .int .i64 k ∧ wr.ownsRow w.heap.size 9 1 v k ((l.map fun x => Value.string (vt x)).take k) ∧ Below w.heap.size w wr) (fun _ i _ => n - (intOf i).toNat)
    case atStart => exact ⟨0, by omega, rfl, ho, hb0⟩
    case round =>
      obtain ⟨k, hk, rfl, hown, hbr⟩ := hrel
      have HBR := Lib.hid hbr
      have HOWN := Lib.hid hown
      clear ho hb0
      by_cases hlt : k < n
      · obtain ⟨b, o, x, rfl, hbB, hx, a0, a1, a2, a3, a4⟩ := (H1.out.below (below_le hbr hB)).at_ hlt
        have hv := ok_vP (HOK.out k x hx)
        have HV := Lib.hid hv
        have HX := Lib.hid hx
        have hp : Pow (wr.alloc (.cells #[.int .i64 x.a, .int .i64 x.b, .int .i64 x.c, .int .i64 x.d, .int .i64 x.e] 30)) := powTab_below (powTab_below HT.out hbr) (new1 _ _)
        have HP := Lib.hid hp
        clear hv hx hbr hown hp
        go_wp2_with fail
        refine (impl_version_text x HV.out _ HP.out).mono ?_
        rintro e W1 ⟨rfl, hb1⟩
        have hbs := hb1.size
        have hsz : wr.heap.size + 1 ≤ W1.heap.size := by simpa using hbs
        have hwr := HBR.out.size
        have hb2 : Below wr.heap.size wr W1 := (new1 wr _).trans (hb1.mono (by simp))
        have hown1 := own_below HOWN.out hb2
        have hb3 : Below w.heap.size w W1 := HBR.out.trans (hb2.mono hwr)
        have HB3 := Lib.hid hb3
        have HOWN1 := Lib.hid hown1
        have hmax : k + 1 ≤ maxLen := by unfold maxLen; omega
        have hbyt : (k + 1) * 16 ≤ 140737488355328 := by omega
        have hbase : ∀ o, w.heap.size ≤ (W1.alloc o).heap.size := fun o => by simp; omega
        clear hb1 hbs hb2 hb3 hown1
        go_wp2_with (at_builtin; refine wpList_append_own _ rfl _ _ 48 rfl w.heap.size 9 i0 (.string ⟨#[]⟩) 1 16 Tryz.underlying48 HI.out HZ0.out HZ1.out HZ2.out rfl (by decide) _ _ _ rfl (HOWN1.out.alloc _) ⟨_, 0, none⟩ 1 1 [.string (vt x)] rfl rfl (cell_one _ _ _) (one_str _) hmax hbyt (hbase _) ?_)
        intro v' w1 hown' hgrow _
        have hb4 : Below w.heap.size w w1 := (HB3.out.alloc HB3.out.size _).grown hgrow (hbase _) (fun k hk => (HOWN1.out.lt k hk).1)
        have HB4 := Lib.hid hb4
        have HOWN' := Lib.hid hown'
        clear hown' hgrow hb4 hmax hbyt hbase
        go_wp2_with fail
        go_roundw
        case rel => exact ⟨k + 1, by omega, by go_num, by rw [take_map_snoc HX.out]; exact HOWN'.out, HB4.out⟩
        case measure => simp [intOf]; omega
      · have ek : k = n := by omega
        subst ek
        clear hbr hown
        have hpos : 0 < k := by have := ch_pos HC.out; have := H1.out.1; omega
        have hown2 := HOWN.out
        rw [List.take_of_length_le (by have := H1.out.1; simp; omega)] at hown2
        have HOWN2 := Lib.hid hown2
        clear hown2
        go_wp2_with fail
        refine (join_call hpos hn H1.out.1 (HCS.out k (by have := H1.out.1; omega)) HOWN2.out).mono ?_
        rintro e W9 ⟨rfl, hb9⟩
        have HB9 : Hid (Below w.heap.size w W9) := Lib.hid (HBR.out.trans (hb9.mono HBR.out.size))
        clear hb9
        go_wp2_with fail
        go_ret
        exact ⟨ret_str (chT_yes H1.out.1 HC.out), HB9.out⟩
end Go.Proofs.YtleeglgjaifejaaGreatDoor.text
