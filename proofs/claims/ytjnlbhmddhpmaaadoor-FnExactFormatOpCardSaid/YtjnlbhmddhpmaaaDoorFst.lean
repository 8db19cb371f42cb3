/- The program's and the model's FormatState: what each answers; the law's copy of a slice of integers; nothing that was there is written. -/
import Derived.Test.YtjnlbhmddhpmaaaDoorInts
import Derived.Test.YtjnlbhmddhpmaaaDoorFmtInt
import Derived.Test.YtjnlbhmddhpmaaaDoorTabs
import Derived.Test.YtjnlbhmddhpmaaaDoorDig
import Derived.Test.YtjnlbhmddhpmaaaDoorJoin
import Derived.WalkKit
import Derived.ProofKit
import Derived.Below
import Derived.Lib.Hide
import Derived.LoopTactic
import Derived.Deep.QuietTactic
import Derived.BigQuiet
import Derived.Outline
import Derived.IntWalk
import Derived.Deep.OwnRows
import Derived.Laws.MakeOwn
import Derived.Laws.Entries
import Derived.Laws.AppendOwn
import Derived.Deep.AppendLies
namespace Go.Proofs.YtjnlbhmddhpmaaaDoor.fst
open Go.ChangeShapes Go.WideShapes Go.ChangeAt Go.RowKit
open Go.Proofs.YtjnlbhmddhpmaaaDoor.vers Go.Proofs.YtjnlbhmddhpmaaaDoor.sl Go.Proofs.YtjnlbhmddhpmaaaDoor.ch Go.Proofs.YtjnlbhmddhpmaaaDoor.st Go.Proofs.YtjnlbhmddhpmaaaDoor.ints Go.Proofs.YtjnlbhmddhpmaaaDoor.fmtn Go.Proofs.YtjnlbhmddhpmaaaDoor.tabs
open Go.Proofs.YtjnlbhmddhpmaaaDoor.fmtInt (spec_fmt impl_fmt)
set_option linter.unusedVariables false
set_option linter.unusedSimpArgs false
abbrev Pow (w : World) : Prop := Lib.TabIs Tryd.prog w "internal/strconv.uint64pow10" .u64 Lib.pow10Tab
def vS (n : Int) : ByteArray := if n = -1 then ⟨#[45]⟩ else S (Lib.itoa n)
theorem vS_size {n : Int} (h0 : -999999999 ≤ n) (h1 : n ≤ 999999999) : (vS n).size ≤ 10 := by
  unfold vS
  split
  · show (#[45] : Array UInt8).size ≤ 10
    decide
  · rw [S_size]; exact Go.Proofs.YtjnlbhmddhpmaaaDoor.dig.itoa_len _ h0 h1
theorem ret_str {a b : ByteArray} (h : a = b) : Ending.returned (.string a) = .returned (.string b) := by rw [h]
theorem str_val {a b : ByteArray} (h : a = b) : Value.string a = .string b := by rw [h]
theorem impl_val (n : Int) (w : World) (h0 : -9223372036854775808 ≤ n) (h1 : n ≤ 9223372036854775807) (htab : Pow w) :
    Calls Tryd.prog 38 #[.int .i64 n] w fun e w' => e = .returned (.string (vS n)) ∧ Below w.heap.size w w' := by
  have HC := Lib.hid (impl_fmt n w h0 h1 htab)
  by_cases hn : n = -1
  · have t : (n == -1) = true := by simpa using hn
    have HN := Lib.hid hn
    clear hn htab
    go_enter Tryd.func38, Tryd.ntmps38
    go_wp2_with fail
    go_ret
    exact ⟨ret_str (by unfold vS; rw [if_pos HN.out]), Below.refl _ _⟩
  · have t : (n == -1) = false := by simpa using hn
    have HN := Lib.hid hn
    clear hn htab
    go_enter Tryd.func38, Tryd.ntmps38
    go_wp2_with fail
    refine HC.out.mono ?_
    rintro e W ⟨rfl, hb⟩
    go_wp2_with fail
    go_ret
    exact ⟨ret_str (by unfold vS; rw [if_neg HN.out]), hb⟩
theorem spec_val (n : Int) (w : World) (h0 : -9223372036854775808 ≤ n) (h1 : n ≤ 9223372036854775807) :
    Calls Tryd.prog 27 #[.int .i64 n] w fun e w' => e = .returned (.string (vS n)) ∧ Below w.heap.size w w' := by
  have HC := Lib.hid (spec_fmt n w h0 h1)
  by_cases hn : n = -1
  · have t : (n == -1) = true := by simpa using hn
    have HN := Lib.hid hn
    clear hn
    go_enter Tryd.func27, Tryd.ntmps27
    go_wp2_with fail
    go_ret
    exact ⟨ret_str (by unfold vS; rw [if_pos HN.out]), Below.refl _ _⟩
  · have t : (n == -1) = false := by simpa using hn
    have HN := Lib.hid hn
    clear hn
    go_enter Tryd.func27, Tryd.ntmps27
    go_wp2_with fail
    refine HC.out.mono ?_
    rintro e W ⟨rfl, hb⟩
    go_wp2_with fail
    go_ret
    exact ⟨ret_str (by unfold vS; rw [if_neg HN.out]), hb⟩
def vl (x : Int) : List UInt8 := (vS x).data.toList
/-- the text of the first k values -/
def cat (l : List Int) (k : Nat) : ByteArray := S (Lib.join ((l.take k).map vl) [32])
theorem vS_S (x : Int) : vS x = S (vl x) := rfl
theorem S_app (a b : List UInt8) : S a ++ S b = S (a ++ b) := by
  apply ByteArray.ext
  show (S a ++ S b).data = _
  rw [ByteArray.data_append]
  show a.toArray ++ b.toArray = (a ++ b).toArray
  simp
theorem join_snoc (xs : List (List UInt8)) (x : List UInt8) (h : xs ≠ []) : Lib.join (xs ++ [x]) [32] = Lib.join xs [32] ++ ([32] ++ x) := by
  match xs, h with
  | y :: r, _ =>
    rw [List.cons_append, Lib.join_cons, Lib.join_cons]
    simp [Lib.joinTail]
theorem take_snoc {l : List Int} {k : Nat} {x : Int} (hx : l[k]? = some x) : l.take (k + 1) = l.take k ++ [x] := by
  have hl := lt_get hx
  rw [List.getElem?_eq_getElem hl] at hx
  rw [List.take_succ_eq_append_getElem hl, Option.some.inj hx]
theorem cat_zero (l : List Int) : cat l 0 = ⟨#[]⟩ := rfl
theorem cat_first {l : List Int} {x : Int} {k : Nat} (hk : ¬ 0 < k) (hx : l[k]? = some x) : cat l (k + 1) = cat l k ++ vS x := by
  obtain rfl : k = 0 := by omega
  unfold cat
  rw [take_snoc hx, vS_S, S_app]
  simp [Lib.join_one, Lib.join_nil]
theorem cat_next {l : List Int} {x : Int} {k : Nat} (hk : 0 < k) (hx : l[k]? = some x) : cat l (k + 1) = (cat l k ++ ⟨#[32]⟩) ++ vS x := by
  unfold cat
  have hne : (l.take k).map vl ≠ [] := by
    have hl := lt_get hx
    intro h
    have := congrArg List.length h
    simp only [List.length_map, List.length_take, List.length_nil] at this
    omega
  rw [take_snoc hx, List.map_append, List.map_cons, List.map_nil, join_snoc _ _ hne, vS_S, show (⟨#[32]⟩ : ByteArray) = S [32] from rfl, S_app, S_app, List.append_assoc]
theorem app_size (a b : ByteArray) : (a ++ b).size = a.size + b.size := ByteArray.size_append
/-- the first k values can be written -/
def OkI (l : List Int) (k : Nat) : Prop := ∀ (j : Nat) (x : Int), j < k → l[j]? = some x → In (-1) 99 x = true
theorem oki_zero (l : List Int) : OkI l 0 := fun j x h => absurd h (by omega)
theorem oki_step {l : List Int} {k : Nat} {x : Int} (h : OkI l k) (hx : l[k]? = some x) (hi : In (-1) 99 x = true) : OkI l (k + 1) := fun j y hj hy => by
  by_cases e : j = k
  · subst e; rw [hx] at hy; cases hy; exact hi
  · exact h j y (by omega) hy
theorem cat_size {l : List Int} : ∀ k, k ≤ l.length → OkI l k → (cat l k).size ≤ 11 * k
  | 0, _, _ => by rw [cat_zero]; decide
  | k + 1, hk, h => by
    have hx : l[k]? = some (l[k]'(by omega)) := List.getElem?_eq_getElem (by omega)
    have hi := in_yes (h k _ (by omega) hx)
    have hv := vS_size (n := l[k]'(by omega)) (by omega) (by omega)
    have ih := cat_size k (by omega) (fun j x hj hx => h j x (by omega) hx)
    by_cases h0 : 0 < k
    · rw [cat_next h0 hx, app_size, app_size]
      have : (⟨#[32]⟩ : ByteArray).size = 1 := rfl
      omega
    · rw [cat_first h0 hx, app_size]
      omega
noncomputable def fsT (l : List Int) : ByteArray := @ite _ (OkI l l.length) (Classical.propDecidable _) (cat l l.length) ⟨#[]⟩
theorem fsT_yes {l : List Int} {n : Nat} (hn : l.length = n) (h : OkI l n) : cat l n = fsT l := by
  subst hn
  unfold fsT
  exact (if_pos h).symm
theorem fsT_no {l : List Int} {k : Nat} {x : Int} (hx : l[k]? = some x) (hi : In (-1) 99 x = false) : (⟨#[]⟩ : ByteArray) = fsT l := by
  unfold fsT
  refine (if_neg fun h => ?_).symm
  have := h k x (lt_get hx) hx
  rw [hi] at this
  cases this
set_option maxRecDepth 100000 in
set_option maxHeartbeats 1600000 in
theorem spec_fstate {w : World} {B n c : Nat} {A : Option Addr} {l : List Int} (hn : n ≤ 1048576) (h1 : Is w B A n l) (hB : B ≤ w.heap.size) :
    Calls Tryd.prog 19 #[.slice A n c] w fun e w' => e = .returned (.string (fsT l)) ∧ Below w.heap.size w w' := by
  have H1 := Lib.hid h1
  have hln := h1.1
  clear h1
  go_enter Tryd.func19, Tryd.ntmps19
  go_wp2
  go_loopw [3, 4] (fun s i wr => ∃ k : Nat, k ≤ n ∧ i = .int .i64 k ∧ s = .string (cat l k) ∧ OkI l k ∧ Below w.heap.size w wr) (fun _ i _ => n - (intOf i).toNat)
  case atStart => exact ⟨0, by omega, rfl, rfl, oki_zero l, Below.refl _ _⟩
  case round =>
    obtain ⟨k, hk, rfl, rfl, hok, hb⟩ := hrel
    have HOK := Lib.hid hok
    clear hok
    by_cases hlt : k < n
    · have t : decide ((k : Int) < (n : Int)) = true := decide_eq_true (by omega)
      obtain ⟨b, o, x, rfl, hbB, hx, hc⟩ := (H1.out.below (below_le hb hB)).at_ hlt
      have HX := Lib.hid hx
      have HB := Lib.hid hb
      clear hx hb
      rcases hi : In (-1) 99 x with _ | _
      · have HI := Lib.hid hi
        clear hi
        go_wp2_with fail
        refine (in_range _ _ _ _).mono ?_
        rintro e W ⟨rfl, rfl⟩
        rw [HI.out]
        go_wp2_with fail
        go_ret
        exact ⟨ret_str (fsT_no HX.out HI.out), HB.out⟩
      · have HI := Lib.hid hi
        have hin := in_yes hi
        have HV := Lib.hid (fun W => spec_val x W (by omega) (by omega))
        have z1 : (vS x).size ≤ 10 := vS_size (by omega) (by omega)
        have z2 : (cat l k).size ≤ 11 * k := cat_size k (by omega) HOK.out
        have z3 : (cat l k ++ (⟨#[32]⟩ : ByteArray)).size = (cat l k).size + 1 := app_size _ _
        clear hi
        by_cases h0 : 0 < k
        · have t2 : decide ((0 : Int) < (k : Int)) = true := decide_eq_true (by omega)
          go_wp2_with fail
          refine (in_range _ _ _ _).mono ?_
          rintro e W ⟨rfl, rfl⟩
          rw [HI.out]
          go_wp2_with fail
          refine (HV.out _).mono ?_
          rintro e W1 ⟨rfl, hb1⟩
          have HB1 := Lib.hid (HB.out.trans (hb1.mono HB.out.size))
          clear hb1
          go_wp2_with fail
          go_roundw
          case rel => exact ⟨k + 1, by omega, by go_num, str_val (cat_next h0 HX.out).symm, oki_step HOK.out HX.out HI.out, HB1.out⟩
          case measure => simp [intOf]; omega
        · have t2 : decide ((0 : Int) < (k : Int)) = false := decide_eq_false (by omega)
          go_wp2_with fail
          refine (in_range _ _ _ _).mono ?_
          rintro e W ⟨rfl, rfl⟩
          rw [HI.out]
          go_wp2_with fail
          refine (HV.out _).mono ?_
          rintro e W1 ⟨rfl, hb1⟩
          have HB1 := Lib.hid (HB.out.trans (hb1.mono HB.out.size))
          clear hb1
          go_wp2_with fail
          go_roundw
          case rel => exact ⟨k + 1, by omega, by go_num, str_val (cat_first h0 HX.out).symm, oki_step HOK.out HX.out HI.out, HB1.out⟩
          case measure => simp [intOf]; omega
    · have t : decide ((k : Int) < (n : Int)) = false := decide_eq_false (by omega)
      obtain rfl : k = n := by omega
      have HB := Lib.hid hb
      clear hb
      go_wp2_with fail
      go_ret
      exact ⟨ret_str (fsT_yes hln HOK.out), HB.out⟩
theorem str_info : (Tryd.prog.info? 9).map (fun i => (i.zero, i.size, i.bytes)) = some (some (.string ⟨#[]⟩), 1, 16) := by kernel_rfl
theorem make_strings (n : Nat) (hn : n ≤ 1048576) (w : World) : ∃ C : Array Value, C.size = n ∧
    (Instr.makeSlice 47 (.int .i64 0) (.int .i64 (n : Int))).run Tryd.prog w = .ok (.slice (some ⟨w.heap.size, 0, none⟩) 0 n) (w.alloc (.cells C 9)) := by
  obtain ⟨i0, hi, hz0, hz1, hz2⟩ := info_parts str_info
  have hr := run_make (P := Tryd.prog) w 47 9 i0 _ Tryd.underlying47 hi hz0 .i64 .i64 0 n (by omega) (by omega) (by rw [hz2]; omega) (by omega)
  simp only [Int.toNat_zero, Int.toNat_natCast, hz1] at hr
  exact ⟨_, by simp [size_madeCells], hr⟩
theorem cell_one (w : World) (v : Value) (t : TypeId) : ∀ (j : Nat) (u : Value), [v][j]? = some u → (w.alloc (.cells #[v] t)).cell? ((⟨w.heap.size, 0, none⟩ : Addr).add j) = some u := by
  intro j u hu
  match j, hu with
  | 0, hu =>
    simp at hu
    subst hu
    exact World.cell?_alloc_mark w _ t _ 0
theorem take_map_snoc {l : List Int} {k : Nat} {x : Int} (hx : l[k]? = some x) : (l.map fun x => Value.string (vS x)).take (k + 1) = (l.map fun x => Value.string (vS x)).take k ++ [Value.string (vS x)] := by
  rw [← List.map_take, ← List.map_take, take_snoc hx, List.map_append]
  rfl
theorem join_call {w : World} {base k : Nat} {v : Value} {l : List Int} (hk2 : k ≤ 1048576) (hl : l.length = k) (hs : (cat l k).size ≤ 11 * k) (h : w.ownsRow base 9 1 v k (l.map fun x => Value.string (vS x))) :
    Calls Tryd.prog 39 #[v, .string ⟨#[32]⟩] w fun e w' => e = .returned (.string (cat l k)) ∧ Below w.heap.size w w' := by
  rcases h.2 with ⟨rfl, rfl⟩ | ⟨g, cap, cur, rfl, hbg, hgg, hkc, hcm, hsz, htake⟩
  · exact (Tryd.strings_Join_none none 0 ⟨#[32]⟩ w).mono fun e w' ⟨he, hw⟩ => ⟨he, by rw [hw]; exact Below.refl _ _⟩
  have hlt : g < w.heap.size := by
    rcases Nat.lt_or_ge g w.heap.size with h' | h'
    · exact h'
    · rw [Array.getElem?_eq_none h'] at hgg; cases hgg
  have hcells : ∀ (j : Nat) (x : ByteArray), (l.map vS)[j]? = some x → w.cell? ⟨g, 0 + j, none⟩ = some (.string x) := by
    intro j x hx
    have := h.cells (g := g) rfl j (.string x) (by
      rw [List.getElem?_map] at hx ⊢
      cases hlj : l[j]? with
      | none => rw [hlj] at hx; cases hx
      | some y => rw [hlj] at hx; simp only [Option.map_some, Option.some.injEq] at hx ⊢; rw [hx])
    rw [← this]
    congr 1
    unfold Addr.add
    split <;> simp_all
  have hjl : Lib.join ((l.map vS).map (·.data.toList)) [32] = Lib.join ((l.take k).map vl) [32] := by
    rw [List.map_map, List.take_of_length_le (by omega)]
    rfl
  have hlen : (Lib.join ((l.map vS).map (·.data.toList)) [32]).length ≤ 140737488355328 := by
    rw [hjl]
    have : (cat l k).size = (Lib.join ((l.take k).map vl) [32]).length := S_size _
    omega
  have hj := Tryd.strings_Join g 0 cap (l.map vS) ⟨#[32]⟩ w hcells hlt (by simp; omega) (by simp; omega) hlen
  rw [List.length_map, hl] at hj
  refine hj.mono fun e w' hh => ⟨?_, hh.2⟩
  rw [hh.1]
  show Ending.returned (.string (S (Lib.join ((l.map vS).map (·.data.toList)) [32]))) = _
  rw [hjl]
  rfl
theorem own_below {w w' : World} {base n size : Nat} {e : TypeId} {v : Value} {xs : List Value} (h : w.ownsRow base e size v n xs) (hb : Below w.heap.size w w') : w'.ownsRow base e size v n xs :=
  h.kept (row := none) ⟨hb.os, hb.tape, hb.output, hb.size, fun i hi _ => hb.block i hi⟩ (by cases v.ownBlock <;> simp)
theorem one_str (s : ByteArray) : ∀ u ∈ [Value.string s], u.oneCell' = true := by
  intro u hu
  simp at hu
  subst hu
  rfl
set_option maxRecDepth 100000 in
set_option maxHeartbeats 3200000 in
theorem impl_fstate {w : World} {B n c : Nat} {A : Option Addr} {l : List Int} (hn : n ≤ 1048576) (h1 : Is w B A n l) (hB : B ≤ w.heap.size) (htab : Pow w) :
    Calls Tryd.prog 22 #[.slice A n c] w fun e w' => e = .returned (.string (fsT l)) ∧ Below w.heap.size w w' := by
  have H1 := Lib.hid h1
  have HT := Lib.hid htab
  have hln := h1.1
  clear h1 htab
  obtain ⟨i0, hi, hz0, hz1, hz2⟩ := info_parts str_info
  obtain ⟨C, hC, hmk⟩ := make_strings n hn w
  have HI0 := Lib.hid hi
  have HZ0 := Lib.hid hz0
  have HZ1 := Lib.hid hz1
  have HZ2 := Lib.hid hz2
  clear hi hz0 hz1 hz2
  go_enter Tryd.func22, Tryd.ntmps22
  go_wp2_with fail
  clear hmk
  have ho := World.ownsRow_made (base := w.heap.size) (e := 9) (size := 1) w C n (Nat.le_refl _) (by unfold maxLen; omega) (by omega)
  have hb0 := new1 w (.cells C 9)
  obtain ⟨v0, hv0⟩ : ∃ v, v = Value.slice (some ⟨w.heap.size, 0, none⟩) 0 n := ⟨_, rfl⟩
  rw [← hv0] at ho ⊢
  clear hv0
  generalize w.alloc (.cells C 9) = W0 at ho hb0 ⊢
  go_loopw [3, 11] (fun v i wr => ∃ k : Nat, k ≤ n ∧ i = .int .i64 k ∧ OkI l k ∧ wr.ownsRow w.heap.size 9 1 v k ((l.map fun x => Value.string (vS x)).take k) ∧ Below w.heap.size w wr) (fun _ i _ => n - (intOf i).toNat)
  case atStart => exact ⟨0, by omega, rfl, oki_zero l, ho, hb0⟩
  case round =>
    obtain ⟨k, hk, rfl, hok, hown, hbr⟩ := hrel
    have HBR := Lib.hid hbr
    have HOWN := Lib.hid hown
    have HOK := Lib.hid hok
    clear ho hb0 hok
    by_cases hlt : k < n
    · obtain ⟨b, o, x, rfl, hbB, hx, hcx⟩ := (H1.out.below (below_le hbr hB)).at_ hlt
      have HX := Lib.hid hx
      have hp : Pow wr := powTab_below HT.out hbr
      have HP := Lib.hid hp
      clear hx hbr hown hp
      rcases hi : In (-1) 99 x with _ | _
      · have HI := Lib.hid hi
        clear hi
        go_wp2_with fail
        refine (value_range _ _).mono ?_
        rintro e W ⟨rfl, rfl⟩
        rw [HI.out]
        go_wp2_with fail
        go_ret
        exact ⟨ret_str (fsT_no HX.out HI.out), HBR.out⟩
      · have HI := Lib.hid hi
        have hin := in_yes hi
        have HV := Lib.hid (impl_val x wr (by omega) (by omega) HP.out)
        clear hi
        go_wp2_with fail
        refine (value_range _ _).mono ?_
        rintro e W ⟨rfl, rfl⟩
        rw [HI.out]
        go_wp2_with fail
        refine HV.out.mono ?_
        rintro e W1 ⟨rfl, hb1⟩
        have hwr := HBR.out.size
        have hown1 := own_below HOWN.out hb1
        have hb3 := HBR.out.trans (hb1.mono hwr)
        have HB3 := Lib.hid hb3
        have HOWN1 := Lib.hid hown1
        have hmax : k + 1 ≤ maxLen := by unfold maxLen; omega
        have hbyt : (k + 1) * 16 ≤ 140737488355328 := by omega
        have hbase : ∀ o, w.heap.size ≤ (W1.alloc o).heap.size := fun o => by have := HB3.out.size; simp; omega
        clear hb1 hb3 hown1
        go_wp2_with (at_builtin; refine wpList_append_own _ rfl _ _ 47 rfl w.heap.size 9 i0 (.string ⟨#[]⟩) 1 16 Tryd.underlying47 HI0.out HZ0.out HZ1.out HZ2.out rfl (by decide) _ _ _ rfl (HOWN1.out.alloc _) ⟨_, 0, none⟩ 1 1 [.string (vS x)] rfl rfl (cell_one _ _ _) (one_str _) hmax hbyt (hbase _) ?_)
        intro v' w1 hown' hgrow _
        have hb4 : Below w.heap.size w w1 := (HB3.out.alloc HB3.out.size _).grown hgrow (hbase _) (fun k hk => (HOWN1.out.lt k hk).1)
        have HB4 := Lib.hid hb4
        have HOWN' := Lib.hid hown'
        clear hown' hgrow hb4 hmax hbyt hbase
        go_wp2_with fail
        go_roundw
        case rel => exact ⟨k + 1, by omega, by go_num, oki_step HOK.out HX.out HI.out, by rw [take_map_snoc HX.out]; exact HOWN'.out, HB4.out⟩
        case measure => simp [intOf]; omega
    · have ek : k = n := by omega
      subst ek
      clear hbr hown
      have hown2 := HOWN.out
      rw [List.take_of_length_le (by simp; omega)] at hown2
      have HOWN2 := Lib.hid hown2
      clear hown2
      go_wp2_with fail
      refine (join_call hn hln (cat_size k (by omega) HOK.out) HOWN2.out).mono ?_
      rintro e W9 ⟨rfl, hb9⟩
      have HB9 : Hid (Below w.heap.size w W9) := Lib.hid (HBR.out.trans (hb9.mono HBR.out.size))
      clear hb9
      go_wp2_with fail
      go_ret
      exact ⟨ret_str (fsT_yes hln HOK.out), HB9.out⟩
/-! the law's copy -/
/-- block N is a row of n integers; the first k are those of l -/
def IRow (w : World) (N n : Nat) (l : List Int) (k : Nat) : Prop := w.rowIs N 3 n (fun i => if i < k then .int .i64 (l.getD i 0) else .int .i64 0)
theorem info_int : (Tryd.prog.info? 3).map (fun i => (i.zero, i.size, i.bytes)) = some (some (.int .i64 0), 1, 8) := by kernel_rfl
theorem make_ints (n : Nat) (hn : n ≤ 1048576) (w : World) :
    (Instr.makeSlice 22 (.int .i64 (n : Int)) (.int .i64 (n : Int))).run Tryd.prog w = .ok (.slice (some ⟨w.heap.size, 0, none⟩) n n) (w.alloc (.cells (madeCells #[.int .i64 0] n) 3)) := by
  obtain ⟨i0, hi, hz0, hz1, hz2⟩ := info_parts info_int
  have hr := run_make (P := Tryd.prog) w 22 3 i0 _ Tryd.underlying22 hi hz0 .i64 .i64 n n (by omega) (by omega) (by rw [hz2]; omega) (by omega)
  simp only [Int.toNat_natCast, hz1, Value.cells, Nat.mul_one] at hr
  exact hr
set_option maxRecDepth 100000 in
set_option maxHeartbeats 800000 in
theorem copy_ints {w : World} {B n c : Nat} {A : Option Addr} {l : List Int} (hn : n ≤ 1048576) (h1 : Is w B A n l) (hB : B ≤ w.heap.size) :
    Calls Tryd.prog 20 #[.slice A n c] w fun e w' => ∃ N, e = .returned (.slice (some ⟨N, 0, none⟩) n n) ∧ w.heap.size ≤ N ∧ Is w' w'.heap.size (some ⟨N, 0, none⟩) n l ∧ Below w.heap.size w w' := by
  have H1 := Lib.hid h1
  have hln := h1.1
  have hmk := make_ints n hn w
  clear h1
  go_enter Tryd.func20, Tryd.ntmps20
  go_wp2
  have hR0 : IRow (w.alloc (.cells (madeCells #[.int .i64 0] n) 3)) w.heap.size n l 0 := (World.rowIs_made w (.int .i64 0) n 3).congr fun i hi => by simp
  have hb0 := new1 w (.cells (madeCells #[.int .i64 0] n) 3)
  obtain ⟨N, hN⟩ : ∃ N, N = w.heap.size := ⟨_, rfl⟩
  rw [← hN] at hR0
  simp only [← hN]
  generalize w.alloc (.cells (madeCells #[.int .i64 0] n) 3) = w0 at hR0 hb0 ⊢
  have hN2 : w.heap.size ≤ N := by omega
  clear hN hmk
  go_loopw [4] (fun i wr => ∃ k : Nat, k ≤ n ∧ i = .int .i64 k ∧ IRow wr N n l k ∧ Below w.heap.size w wr) (fun i _ => n - (intOf i).toNat)
  case atStart => exact ⟨0, by omega, rfl, hR0, hb0⟩
  case round =>
    obtain ⟨k, hk, rfl, hR, hb⟩ := hrel
    have hNl : N < wr.heap.size := World.rowIs.lt hR
    by_cases hlt : k < n
    · obtain ⟨b, o, x, rfl, hbB, hx, hcx⟩ := (H1.out.below (below_le hb hB)).at_ hlt
      obtain ⟨u, hu⟩ : ∃ u, wr.cell? ⟨N, k, none⟩ = some u := ⟨_, World.rowIs.cell hR hlt⟩
      have hf := World.rowIs.frozen hR k
      have HB := Lib.hid hb
      have HR := Lib.hid hR
      have HX := Lib.hid hx
      clear hb hx hR hR0 hb0
      go_wp2_with fail
      go_roundw
      case rel =>
        refine ⟨k + 1, by omega, by go_num, ?_, HB.out.setCell hN2 _⟩
        refine (World.rowIs.set HR.out k (.int .i64 x)).congr fun i hi => ?_
        by_cases e : i = k
        · subst e
          rw [if_pos rfl, if_pos (by omega)]
          simp [List.getD, HX.out]
        · rw [if_neg e]
          by_cases h2 : i < k
          · rw [if_pos h2, if_pos (by omega)]
          · rw [if_neg h2, if_neg (by omega)]
      case measure => simp [intOf]; omega
    · obtain rfl : k = n := by omega
      have HB := Lib.hid hb
      have HR := Lib.hid hR
      clear hb hR hR0 hb0
      go_wp2
      go_ret
      refine ⟨N, rfl, hN2, ⟨hln, fun _ => ⟨N, 0, rfl, hNl, fun i x hx => ?_⟩⟩, HB.out⟩
      have hi := lt_get hx
      have := World.rowIs.cell HR.out (i := i) (by omega)
      rw [Nat.zero_add, this, if_pos (by omega)]
      simp [List.getD, hx]
end Go.Proofs.YtjnlbhmddhpmaaaDoor.fst
