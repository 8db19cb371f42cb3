/- FormatOps of the program and of the model: what each answers at a list of operations. -/
import Derived.Test.YtjnlbhmddhpmaabDoorFop
import Derived.Test.YtjnlbhmddhpmaabDoorJoin
import Derived.WalkKit
import Derived.ProofKit
import Derived.Below
import Derived.Lib.Hide
import Derived.LoopTactic
import Derived.Deep.QuietTactic
import Derived.BigQuiet
import Derived.Outline
import Derived.IntWalk
import Derived.Deep.OwnRows
import Derived.Laws.MakeOwn
import Derived.Laws.Entries
import Derived.Laws.AppendOwn
import Derived.Deep.AppendLies
namespace Go.Proofs.YtjnlbhmddhpmaabDoor.fos
open Go.ChangeShapes Go.WideShapes Go.ChangeAt Go.RowKit
open Go.Proofs.YtjnlbhmddhpmaabDoor.el6
open Go.Proofs.YtjnlbhmddhpmaabDoor.vers (In in_yes in_no in_of in_off ret_b new2 new3)
open Go.Proofs.YtjnlbhmddhpmaabDoor.ovp (ovX impl_op)
open Go.Proofs.YtjnlbhmddhpmaabDoor.fop (foT fo_no it it_size spec_fop impl_fop ov_rng)
open Go.Proofs.YtjnlbhmddhpmaabDoor.fmtn Go.Proofs.YtjnlbhmddhpmaabDoor.tabs
open Go.Proofs.YtjnlbhmddhpmaabDoor.fst (Pow app_size S_app ret_str str_val)
set_option linter.unusedVariables false
set_option linter.unusedSimpArgs false
set_option linter.constructorNameAsVariable false
theorem fo_size (x : E6) : (foT x).size ≤ 40 ∧ (ovX x = true → 1 ≤ (foT x).size) := by
  obtain ⟨a, b, c, d, e, f⟩ := x
  by_cases hv : ovX ⟨a, b, c, d, e, f⟩ = false
  · rw [fo_no hv]
    exact ⟨by decide, fun h => by rw [hv] at h; cases h⟩
  · have hv : ovX ⟨a, b, c, d, e, f⟩ = true := by simpa using hv
    obtain ⟨ha, hb, hd, hf, he⟩ := ov_rng hv
    have zb : (it b).size ≤ 10 := it_size (by omega) (by omega)
    have zd : (it d).size ≤ 10 := it_size (by omega) (by omega)
    have ze : (it e).size ≤ 10 := it_size (by omega) (by omega)
    have zf : (fst.vS f).size ≤ 10 := fst.vS_size (by omega) (by omega)
    have zc := snw.sn_size c
    have L : ∀ x : UInt8, (⟨#[x]⟩ : ByteArray).size = 1 := fun _ => rfl
    have hk : a = 1 ∨ a = 2 ∨ a = 3 ∨ a = 4 ∨ a = 5 ∨ a = 6 := by omega
    rcases hk with rfl | rfl | rfl | rfl | rfl | rfl
    · rw [fop.fo_1 hv]; simp only [app_size, L]; omega
    · rw [fop.fo_2 hv]; simp only [app_size, L]; omega
    · rw [fop.fo_3 hv]; simp only [app_size, L]; omega
    · rw [fop.fo_4 hv]; simp only [app_size, L]; omega
    · rw [fop.fo_5 hv]; simp only [app_size, L]; omega
    · rw [fop.fo_6 hv]; simp only [app_size, L]; omega
theorem forms0 {g : ByteArray} (h : 1 ≤ g.size) : (g.toList == (⟨#[]⟩ : ByteArray).toList) = false ∧ (g.toList == []) = false ∧ ¬ g.toList = [] ∧ g.toList.isEmpty = false := by
  have e : (⟨#[]⟩ : ByteArray).toList = [] := by rw [ByteArray.toList_eq]
  have hl : g.toList.length = g.size := by rw [ByteArray.toList_eq]; rfl
  have hne : ¬ g.toList = [] := fun h0 => by rw [h0] at hl; simp at hl; omega
  rw [e]
  cases hg : g.toList with
  | nil => exact absurd hg hne
  | cons a r => simp
def vl (x : E6) : List UInt8 := (foT x).data.toList
/-- the text of the first k operations -/
def cat (l : List E6) (k : Nat) : ByteArray := S (Lib.join ((l.take k).map vl) [59])
theorem fo_S (x : E6) : foT x = S (vl x) := rfl
theorem join_snoc (xs : List (List UInt8)) (x : List UInt8) (h : xs ≠ []) : Lib.join (xs ++ [x]) [59] = Lib.join xs [59] ++ ([59] ++ x) := by
  match xs, h with
  | y :: r, _ =>
    rw [List.cons_append, Lib.join_cons, Lib.join_cons]
    simp [Lib.joinTail]
theorem take_snoc {l : List E6} {k : Nat} {x : E6} (hx : l[k]? = some x) : l.take (k + 1) = l.take k ++ [x] := by
  have hl := lt_get hx
  rw [List.getElem?_eq_getElem hl] at hx
  rw [List.take_succ_eq_append_getElem hl, Option.some.inj hx]
theorem cat_zero (l : List E6) : cat l 0 = ⟨#[]⟩ := rfl
theorem cat_first {l : List E6} {x : E6} {k : Nat} (hk : ¬ 0 < k) (hx : l[k]? = some x) : cat l (k + 1) = cat l k ++ foT x := by
  obtain rfl : k = 0 := by omega
  unfold cat
  rw [take_snoc hx, fo_S, S_app]
  simp [Lib.join_one, Lib.join_nil]
theorem cat_next {l : List E6} {x : E6} {k : Nat} (hk : 0 < k) (hx : l[k]? = some x) : cat l (k + 1) = (cat l k ++ ⟨#[59]⟩) ++ foT x := by
  unfold cat
  have hne : (l.take k).map vl ≠ [] := by
    have hl := lt_get hx
    intro h
    have := congrArg List.length h
    simp only [List.length_map, List.length_take, List.length_nil] at this
    omega
  rw [take_snoc hx, List.map_append, List.map_cons, List.map_nil, join_snoc _ _ hne, fo_S, show (⟨#[59]⟩ : ByteArray) = S [59] from rfl, S_app, S_app, List.append_assoc]
/-- the first k values can be written -/
def OkO (l : List E6) (k : Nat) : Prop := ∀ (j : Nat) (x : E6), j < k → l[j]? = some x → ovX x = true
theorem oki_zero (l : List E6) : OkO l 0 := fun j x h => absurd h (by omega)
theorem oki_step {l : List E6} {k : Nat} {x : E6} (h : OkO l k) (hx : l[k]? = some x) (hi : ovX x = true) : OkO l (k + 1) := fun j y hj hy => by
  by_cases e : j = k
  · subst e; rw [hx] at hy; cases hy; exact hi
  · exact h j y (by omega) hy
theorem cat_size {l : List E6} : ∀ k, k ≤ l.length → (cat l k).size ≤ 41 * k
  | 0, _ => by rw [cat_zero]; decide
  | k + 1, hk => by
    have hx : l[k]? = some (l[k]'(by omega)) := List.getElem?_eq_getElem (by omega)
    have hv := (fo_size (l[k]'(by omega))).1
    have ih := cat_size (l := l) k (by omega)
    by_cases h0 : 0 < k
    · rw [cat_next h0 hx, app_size, app_size]
      have : (⟨#[59]⟩ : ByteArray).size = 1 := rfl
      omega
    · rw [cat_first h0 hx, app_size]
      omega
noncomputable def foS (l : List E6) : ByteArray := @ite _ (l.length ≤ 60 ∧ OkO l l.length) (Classical.propDecidable _) (cat l l.length) ⟨#[]⟩
theorem foS_yes {l : List E6} {n : Nat} (hn : l.length = n) (h6 : n ≤ 60) (h : OkO l n) : cat l n = foS l := by
  subst hn
  unfold foS
  exact (if_pos ⟨h6, h⟩).symm
theorem foS_no {l : List E6} {k : Nat} {x : E6} (hx : l[k]? = some x) (hi : ovX x = false) : (⟨#[]⟩ : ByteArray) = foS l := by
  unfold foS
  refine (if_neg fun h => ?_).symm
  have := h.2 k x (lt_get hx) hx
  rw [hi] at this
  cases this
theorem foS_big {l : List E6} (h6 : 60 < l.length) : (⟨#[]⟩ : ByteArray) = foS l := by
  unfold foS
  exact (if_neg fun h => by have := h.1; omega).symm
set_option maxRecDepth 100000 in
set_option maxHeartbeats 1600000 in
theorem spec_fos {w : World} {B n c : Nat} {A : Option Addr} {l : List E6} (hn : n ≤ 1048576) (h1 : Vs w B A n l) (hB : B ≤ w.heap.size) :
    Calls Tryd.prog 6 #[.slice A n c] w fun e w' => e = .returned (.string (foS l)) ∧ Below w.heap.size w w' := by
  have H1 := Lib.hid h1
  have HLN := Lib.hid h1.1
  clear h1
  by_cases h6 : 60 < n
  · have t6 : decide ((n : Int) ≤ 60) = false := decide_eq_false (by omega)
    have HE := Lib.hid (foS_big (l := l) (by rw [HLN.out]; exact h6))
    have tn : decide ((0 : Int) < (n : Int)) = true := decide_eq_true (by omega)
    go_enter Tryd.func6, Tryd.ntmps6
    go_wp2_with fail
    go_loopw [3, 4, 5] (fun s i _ wr => s = .string ⟨#[]⟩ ∧ i = .int .i64 0 ∧ wr = w) (fun _ i _ _ => n - (intOf i).toNat)
    case atStart => exact ⟨rfl, rfl, rfl⟩
    case round =>
      obtain ⟨rfl, rfl, rfl⟩ := hrel
      go_wp2_with fail
      go_ret
      exact ⟨ret_str HE.out, Below.refl _ _⟩
  have t6 : decide ((n : Int) ≤ 60) = true := decide_eq_true (by omega)
  go_enter Tryd.func6, Tryd.ntmps6
  go_wp2_with fail
  go_loopw [3, 4, 5] (fun s i _ wr => ∃ k : Nat, k ≤ n ∧ i = .int .i64 k ∧ s = .string (cat l k) ∧ OkO l k ∧ Below w.heap.size w wr) (fun _ i _ _ => n - (intOf i).toNat)
  case atStart => exact ⟨0, by omega, rfl, rfl, oki_zero l, Below.refl _ _⟩
  case round =>
    obtain ⟨k, hk, rfl, rfl, hok, hb⟩ := hrel
    have HOK := Lib.hid hok
    clear hok
    by_cases hlt : k < n
    · have t : decide ((k : Int) < (n : Int)) = true := decide_eq_true (by omega)
      obtain ⟨b, o, x, rfl, hbB, hx, a0, a1, a2, a3, a4, a5⟩ := (H1.out.below (below_le hb hB)).at_ hlt
      have HX := Lib.hid hx
      have HB := Lib.hid hb
      have HV := Lib.hid (fun W => spec_fop x W)
      have z2 : (cat l k).size ≤ 41 * k := cat_size k (by have := HLN.out; omega)
      have z3 : (cat l k ++ (⟨#[59]⟩ : ByteArray)).size = (cat l k).size + 1 := app_size _ _
      have z1 := (fo_size x).1
      clear hx hb
      rcases hi : ovX x with _ | _
      · have HI := Lib.hid hi
        have HF := Lib.hid (fo_no hi)
        clear hi
        go_wp2_with fail
        refine (HV.out _).mono ?_
        rintro e W1 ⟨rfl, hb1⟩
        rw [HF.out]
        have HB1 := Lib.hid (HB.out.trans (hb1.mono HB.out.size))
        clear hb1
        go_wp2_with fail
        go_ret
        exact ⟨ret_str (foS_no HX.out HI.out), HB1.out⟩
      · have HI := Lib.hid hi
        obtain ⟨tg, tg2, tg3, tg4⟩ := forms0 ((fo_size x).2 hi)
        clear hi
        by_cases h0 : 0 < k
        · have t2 : decide ((0 : Int) < (k : Int)) = true := decide_eq_true (by omega)
          go_wp2_with fail
          refine (HV.out _).mono ?_
          rintro e W1 ⟨rfl, hb1⟩
          have HB1 := Lib.hid (HB.out.trans (hb1.mono HB.out.size))
          clear hb1
          go_wp2_with fail
          go_roundw
          case rel => exact ⟨k + 1, by omega, by go_num, str_val (cat_next h0 HX.out).symm, oki_step HOK.out HX.out HI.out, HB1.out⟩
          case measure => simp [intOf]; omega
        · have t2 : decide ((0 : Int) < (k : Int)) = false := decide_eq_false (by omega)
          go_wp2_with fail
          refine (HV.out _).mono ?_
          rintro e W1 ⟨rfl, hb1⟩
          have HB1 := Lib.hid (HB.out.trans (hb1.mono HB.out.size))
          clear hb1
          go_wp2_with fail
          go_roundw
          case rel => exact ⟨k + 1, by omega, by go_num, str_val (cat_first h0 HX.out).symm, oki_step HOK.out HX.out HI.out, HB1.out⟩
          case measure => simp [intOf]; omega
    · have t : decide ((k : Int) < (n : Int)) = false := decide_eq_false (by omega)
      obtain rfl : k = n := by omega
      have HB := Lib.hid hb
      clear hb
      go_wp2_with fail
      go_ret
      exact ⟨ret_str (foS_yes HLN.out (by omega) HOK.out), HB.out⟩
theorem str_info : (Tryd.prog.info? 9).map (fun i => (i.zero, i.size, i.bytes)) = some (some (.string ⟨#[]⟩), 1, 16) := by kernel_rfl
theorem make_strings (n : Nat) (hn : n ≤ 1048576) (w : World) : ∃ C : Array Value, C.size = n ∧
    (Instr.makeSlice 38 (.int .i64 0) (.int .i64 (n : Int))).run Tryd.prog w = .ok (.slice (some ⟨w.heap.size, 0, none⟩) 0 n) (w.alloc (.cells C 9)) := by
  obtain ⟨i0, hi, hz0, hz1, hz2⟩ := info_parts str_info
  have hr := run_make (P := Tryd.prog) w 38 9 i0 _ Tryd.underlying38 hi hz0 .i64 .i64 0 n (by omega) (by omega) (by rw [hz2]; omega) (by omega)
  simp only [Int.toNat_zero, Int.toNat_natCast, hz1] at hr
  exact ⟨_, by simp [size_madeCells], hr⟩
theorem cell_one (w : World) (v : Value) (t : TypeId) : ∀ (j : Nat) (u : Value), [v][j]? = some u → (w.alloc (.cells #[v] t)).cell? ((⟨w.heap.size, 0, none⟩ : Addr).add j) = some u := by
  intro j u hu
  match j, hu with
  | 0, hu =>
    simp at hu
    subst hu
    exact World.cell?_alloc_mark w _ t _ 0
theorem take_map_snoc {l : List E6} {k : Nat} {x : E6} (hx : l[k]? = some x) : (l.map fun x => Value.string (foT x)).take (k + 1) = (l.map fun x => Value.string (foT x)).take k ++ [Value.string (foT x)] := by
  rw [← List.map_take, ← List.map_take, take_snoc hx, List.map_append]
  rfl
theorem join_call {w : World} {base k : Nat} {v : Value} {l : List E6} (hk2 : k ≤ 1048576) (hl : l.length = k) (hs : (cat l k).size ≤ 41 * k) (h : w.ownsRow base 9 1 v k (l.map fun x => Value.string (foT x))) :
    Calls Tryd.prog 18 #[v, .string ⟨#[59]⟩] w fun e w' => e = .returned (.string (cat l k)) ∧ Below w.heap.size w w' := by
  rcases h.2 with ⟨rfl, rfl⟩ | ⟨g, cap, cur, rfl, hbg, hgg, hkc, hcm, hsz, htake⟩
  · exact (Tryd.strings_Join_none none 0 ⟨#[59]⟩ w).mono fun e w' ⟨he, hw⟩ => ⟨he, by rw [hw]; exact Below.refl _ _⟩
  have hlt : g < w.heap.size := by
    rcases Nat.lt_or_ge g w.heap.size with h' | h'
    · exact h'
    · rw [Array.getElem?_eq_none h'] at hgg; cases hgg
  have hcells : ∀ (j : Nat) (x : ByteArray), (l.map foT)[j]? = some x → w.cell? ⟨g, 0 + j, none⟩ = some (.string x) := by
    intro j x hx
    have := h.cells (g := g) rfl j (.string x) (by
      rw [List.getElem?_map] at hx ⊢
      cases hlj : l[j]? with
      | none => rw [hlj] at hx; cases hx
      | some y => rw [hlj] at hx; simp only [Option.map_some, Option.some.injEq] at hx ⊢; rw [hx])
    rw [← this]
    congr 1
    unfold Addr.add
    split <;> simp_all
  have hjl : Lib.join ((l.map foT).map (·.data.toList)) [59] = Lib.join ((l.take k).map vl) [59] := by
    rw [List.map_map, List.take_of_length_le (by omega)]
    rfl
  have hlen : (Lib.join ((l.map foT).map (·.data.toList)) [59]).length ≤ 140737488355328 := by
    rw [hjl]
    have : (cat l k).size = (Lib.join ((l.take k).map vl) [59]).length := S_size _
    omega
  have hj := Tryd.strings_Join g 0 cap (l.map foT) ⟨#[59]⟩ w hcells hlt (by simp; omega) (by simp; omega) hlen
  rw [List.length_map, hl] at hj
  refine hj.mono fun e w' hh => ⟨?_, hh.2⟩
  rw [hh.1]
  show Ending.returned (.string (S (Lib.join ((l.map foT).map (·.data.toList)) [59]))) = _
  rw [hjl]
  rfl
theorem own_below {w w' : World} {base n size : Nat} {e : TypeId} {v : Value} {xs : List Value} (h : w.ownsRow base e size v n xs) (hb : Below w.heap.size w w') : w'.ownsRow base e size v n xs :=
  h.kept (row := none) ⟨hb.os, hb.tape, hb.output, hb.size, fun i hi _ => hb.block i hi⟩ (by cases v.ownBlock <;> simp)
theorem one_str (s : ByteArray) : ∀ u ∈ [Value.string s], u.oneCell' = true := by
  intro u hu
  simp at hu
  subst hu
  rfl
set_option maxRecDepth 100000 in
set_option maxHeartbeats 6400000 in
theorem impl_fos {w : World} {B n c : Nat} {A : Option Addr} {l : List E6} (hn : n ≤ 1048576) (h1 : Vs w B A n l) (hB : B ≤ w.heap.size) (htab : Pow w) :
    Calls Tryd.prog 8 #[.slice A n c] w fun e w' => e = .returned (.string (foS l)) ∧ Below w.heap.size w w' := by
  have H1 := Lib.hid h1
  have HT := Lib.hid htab
  have HLN := Lib.hid h1.1
  clear h1 htab
  by_cases h6 : 60 < n
  · have t6 : decide ((60 : Int) < (n : Int)) = true := decide_eq_true (by omega)
    have HE := Lib.hid (foS_big (l := l) (by rw [HLN.out]; exact h6))
    go_enter Tryd.func8, Tryd.ntmps8
    go_wp2_with fail
    go_ret
    exact ⟨ret_str HE.out, Below.refl _ _⟩
  have t6 : decide ((60 : Int) < (n : Int)) = false := decide_eq_false (by omega)
  obtain ⟨i0, hi, hz0, hz1, hz2⟩ := info_parts str_info
  obtain ⟨C, hC, hmk⟩ := make_strings n hn w
  have HI0 := Lib.hid hi
  have HZ0 := Lib.hid hz0
  have HZ1 := Lib.hid hz1
  have HZ2 := Lib.hid hz2
  clear hi hz0 hz1 hz2
  go_enter Tryd.func8, Tryd.ntmps8
  go_wp2_with fail
  clear hmk
  have ho := World.ownsRow_made (base := w.heap.size) (e := 9) (size := 1) w C n (Nat.le_refl _) (by unfold maxLen; omega) (by omega)
  have hb0 := new1 w (.cells C 9)
  obtain ⟨v0, hv0⟩ : ∃ v, v = Value.slice (some ⟨w.heap.size, 0, none⟩) 0 n := ⟨_, rfl⟩
  rw [← hv0] at ho ⊢
  clear hv0
  generalize w.alloc (.cells C 9) = W0 at ho hb0 ⊢
  go_loopw [3, 5, 14] (fun v _ i wr => ∃ k : Nat, k ≤ n ∧ i = .int .i64 k ∧ OkO l k ∧ wr.ownsRow w.heap.size 9 1 v k ((l.map fun x => Value.string (foT x)).take k) ∧ Below w.heap.size w wr) (fun _ _ i _ => n - (intOf i).toNat)
  case atStart => exact ⟨0, by omega, rfl, oki_zero l, ho, hb0⟩
  case round =>
    obtain ⟨k, hk, rfl, hok, hown, hbr⟩ := hrel
    have HBR := Lib.hid hbr
    have HOWN := Lib.hid hown
    have HOK := Lib.hid hok
    clear ho hb0 hok
    by_cases hlt : k < n
    · obtain ⟨b, o, x, rfl, hbB, hx, a0, a1, a2, a3, a4, a5⟩ := (H1.out.below (below_le hbr hB)).at_ hlt
      have HX := Lib.hid hx
      have hwr := hbr.size
      clear hx hbr hown
      rcases hi : ovX x with _ | _
      · have HI := Lib.hid hi
        have HO : Hid (∀ W : World, Calls Tryd.prog 16 #[.agg #[.int .i64 x.a, .int .i64 x.b, .int .i64 x.c, .int .i64 x.d, .int .i64 x.e, .int .i64 x.f]] W fun e' w' => e' = .returned (.bool false) ∧ Below W.heap.size W w') := Lib.hid fun W => by
          have := impl_op x.a x.b x.c x.d x.e x.f W
          rw [show (⟨x.a, x.b, x.c, x.d, x.e, x.f⟩ : E6) = x from rfl, hi] at this
          exact this
        clear hi
        go_wp2_with fail
        have hbx := boxed wr x 35
        have hbb := HBR.out.trans ((new1 wr (.cells #[.int .i64 x.a, .int .i64 x.b, .int .i64 x.c, .int .i64 x.d, .int .i64 x.e, .int .i64 x.f] 35)).mono (by omega))
        generalize wr.alloc _ = W2 at hbx hbb ⊢
        obtain ⟨x0, x1, x2, x3, x4, x5⟩ := atFlat hbx
        have B2 := Lib.hid hbb
        clear hbx hbb a0 a1 a2 a3 a4 a5
        go_wp2_with fail
        refine (HO.out _).mono ?_
        rintro e W3 ⟨rfl, hb3⟩
        have B3 := Lib.hid (B2.out.trans (hb3.mono B2.out.size))
        clear hb3
        go_wp2_with fail
        go_ret
        exact ⟨ret_str (foS_no HX.out HI.out), B3.out⟩
      · have HI := Lib.hid hi
        have HO : Hid (∀ W : World, Calls Tryd.prog 16 #[.agg #[.int .i64 x.a, .int .i64 x.b, .int .i64 x.c, .int .i64 x.d, .int .i64 x.e, .int .i64 x.f]] W fun e' w' => e' = .returned (.bool true) ∧ Below W.heap.size W w') := Lib.hid fun W => by
          have := impl_op x.a x.b x.c x.d x.e x.f W
          rw [show (⟨x.a, x.b, x.c, x.d, x.e, x.f⟩ : E6) = x from rfl, hi] at this
          exact this
        have HV := Lib.hid (fun W h => impl_fop x W h)
        clear hi
        go_wp2_with fail
        have hbx := boxed wr x 35
        have hn1 := new1 wr (.cells #[.int .i64 x.a, .int .i64 x.b, .int .i64 x.c, .int .i64 x.d, .int .i64 x.e, .int .i64 x.f] 35)
        have hbb := HBR.out.trans (hn1.mono (by omega))
        have hw2 := own_below HOWN.out hn1
        have hz2 : (wr.alloc (.cells #[.int .i64 x.a, .int .i64 x.b, .int .i64 x.c, .int .i64 x.d, .int .i64 x.e, .int .i64 x.f] 35)).heap.size = wr.heap.size + 1 := by simp
        clear hn1
        generalize wr.alloc _ = W2 at hbx hbb hw2 hz2 ⊢
        obtain ⟨x0, x1, x2, x3, x4, x5⟩ := atFlat hbx
        have X2 := Lib.hid hbx
        have B2 := Lib.hid hbb
        have OW2 := Lib.hid hw2
        clear hbx hbb hw2 a0 a1 a2 a3 a4 a5
        go_wp2_with fail
        refine (HO.out _).mono ?_
        rintro e W3 ⟨rfl, hb3⟩
        have hs3 := hb3.size
        have B3 := Lib.hid (B2.out.trans (hb3.mono B2.out.size))
        have OW3 := Lib.hid (own_below OW2.out hb3)
        have X3 := X2.out.keep (B := W2.heap.size) (by omega) hb3
        obtain ⟨y0, y1, y2, y3, y4, y5⟩ := atFlat X3
        clear hb3 x0 x1 x2 x3 x4 x5 X3
        go_wp2_with fail
        refine (HV.out _ (powTab_below HT.out B3.out)).mono ?_
        rintro e W1 ⟨rfl, hb1⟩
        have HB3 := Lib.hid (B3.out.trans (hb1.mono B3.out.size))
        have HOWN1 := Lib.hid (own_below OW3.out hb1)
        have hmax : k + 1 ≤ maxLen := by unfold maxLen; omega
        have hbyt : (k + 1) * 16 ≤ 140737488355328 := by omega
        have hbase : ∀ o, w.heap.size ≤ (W1.alloc o).heap.size := fun o => by have := HB3.out.size; simp; omega
        clear hb1 y0 y1 y2 y3 y4 y5
        go_wp2_with (at_builtin; refine wpList_append_own _ rfl _ _ 38 rfl w.heap.size 9 i0 (.string ⟨#[]⟩) 1 16 Tryd.underlying38 HI0.out HZ0.out HZ1.out HZ2.out rfl (by decide) _ _ _ rfl (HOWN1.out.alloc _) ⟨_, 0, none⟩ 1 1 [.string (foT x)] rfl rfl (cell_one _ _ _) (one_str _) hmax hbyt (hbase _) ?_)
        intro v' w1 hown' hgrow _
        have hb4 : Below w.heap.size w w1 := (HB3.out.alloc HB3.out.size _).grown hgrow (hbase _) (fun k hk => (HOWN1.out.lt k hk).1)
        have HB4 := Lib.hid hb4
        have HOWN' := Lib.hid hown'
        clear hown' hgrow hb4 hmax hbyt hbase
        go_wp2_with fail
        go_roundw
        case rel => exact ⟨k + 1, by omega, by go_num, oki_step HOK.out HX.out HI.out, by rw [take_map_snoc HX.out]; exact HOWN'.out, HB4.out⟩
        case measure => simp [intOf]; omega
    · have ek : k = n := by omega
      subst ek
      have hown2 := HOWN.out
      rw [List.take_of_length_le (by have := HLN.out; simp; omega)] at hown2
      have HOWN2 := Lib.hid hown2
      clear hown2 hbr hown
      go_wp2_with fail
      refine (join_call hn HLN.out (cat_size k (by have := HLN.out; omega)) HOWN2.out).mono ?_
      rintro e W9 ⟨rfl, hb9⟩
      have HB9 : Hid (Below w.heap.size w W9) := Lib.hid (HBR.out.trans (hb9.mono HBR.out.size))
      clear hb9
      go_wp2_with fail
      go_ret
      exact ⟨ret_str (foS_yes HLN.out (by omega) HOK.out), HB9.out⟩
end Go.Proofs.YtjnlbhmddhpmaabDoor.fos
