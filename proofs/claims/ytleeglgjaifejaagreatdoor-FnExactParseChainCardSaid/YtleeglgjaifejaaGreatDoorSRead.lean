/- How the model cuts a text and reads a version out of a piece of it; nothing that was there is written. -/
import Derived.Test.YtleeglgjaifejaaGreatDoorParse
import Derived.WalkKit
import Derived.ProofKit
import Derived.Below
import Derived.Lib.Hide
import Derived.LoopTactic
import Derived.Outline
import Derived.IntWalk
import Derived.WalkLawsBesides
namespace Go.Proofs.YtleeglgjaifejaaGreatDoor.sread
open Go.ChangeShapes Go.WideShapes Go.ChangeAt Go.RowKit
open Go.Lib (itoa)
open Go.Proofs.YtleeglgjaifejaaGreatDoor.vers Go.Proofs.YtleeglgjaifejaaGreatDoor.sl Go.Proofs.YtleeglgjaifejaaGreatDoor.ch Go.Proofs.YtleeglgjaifejaaGreatDoor.fmtn Go.Proofs.YtleeglgjaifejaaGreatDoor.tabs Go.Proofs.YtleeglgjaifejaaGreatDoor.text Go.Proofs.YtleeglgjaifejaaGreatDoor.pieces Go.Proofs.YtleeglgjaifejaaGreatDoor.parse
open Go.Proofs.YtleeglgjaifejaaGreatDoor.marks (FM)
open Go.Proofs.YtleeglgjaifejaaGreatDoor.dig (Num)
open Go.Proofs.YtleeglgjaifejaaGreatDoor.read (Env Blk spec_int spec_mk num_S num_range vt_vl)
set_option linter.unusedVariables false
set_option linter.unusedSimpArgs false
/-- the part of a text from f up to i -/
def part (L : List UInt8) (f i : Nat) : List UInt8 := (L.drop f).take (i - f)
theorem part_none (L : List UInt8) (i : Nat) : part L i i = [] := by simp [part]
theorem part_snoc {L : List UInt8} {f i : Nat} {b : UInt8} (h : f ≤ i) (hb : L[i]? = some b) : part L f (i + 1) = part L f i ++ [b] := by
  unfold part
  have hi : i < L.length := by
    rcases Nat.lt_or_ge i L.length with h' | h'
    · exact h'
    · rw [List.getElem?_eq_none h'] at hb; cases hb
  rw [show i + 1 - f = (i - f) + 1 by omega, List.take_add_one, List.getElem?_drop, show f + (i - f) = i by omega, hb]
  rfl
theorem drop_at {L : List UInt8} {i : Nat} {b : UInt8} (hb : L[i]? = some b) : L.drop i = b :: L.drop (i + 1) := by
  have hi : i < L.length := by
    rcases Nat.lt_or_ge i L.length with h' | h'
    · exact h'
    · rw [List.getElem?_eq_none h'] at hb; cases hb
  rw [List.drop_eq_getElem_cons hi]
  rw [List.getElem?_eq_getElem hi] at hb
  rw [Option.some.inj hb]
theorem ext_part (s : ByteArray) (f i : Nat) : s.extract f i = S (part s.data.toList f i) := by
  apply ByteArray.ext
  rw [ByteArray.data_extract]
  show _ = (List.toArray _)
  unfold part
  rw [← Array.toList_inj]
  simp
/-- what has been cut so far -/
def Cuts (c : UInt8) (L : List UInt8) (out : List (List UInt8)) (f i : Nat) : Prop := piec c [] L = out ++ piec c (part L f i) (L.drop i)
theorem cuts_start (c : UInt8) (L : List UInt8) : Cuts c L [] 0 0 := by simp [Cuts, part]
theorem cuts_miss {c : UInt8} {L : List UInt8} {out : List (List UInt8)} {f i : Nat} {b : UInt8} (h : Cuts c L out f i) (hf : f ≤ i) (hb : L[i]? = some b) (hc : b ≠ c) : Cuts c L out f (i + 1) := by
  unfold Cuts at h ⊢
  rw [h, drop_at hb, piec, if_neg hc, part_snoc hf hb]
theorem cuts_hit {c : UInt8} {L : List UInt8} {out : List (List UInt8)} {f i : Nat} {b : UInt8} (h : Cuts c L out f i) (hb : L[i]? = some b) (hc : b = c) : Cuts c L (out ++ [part L f i]) (i + 1) (i + 1) := by
  unfold Cuts at h ⊢
  rw [h, drop_at hb, piec, if_pos hc, part_none]
  simp
theorem cuts_end {c : UInt8} {L : List UInt8} {out : List (List UInt8)} {f : Nat} (h : Cuts c L out f L.length) : piec c [] L = out ++ [part L f L.length] := by
  unfold Cuts at h
  rw [h, List.drop_length, piec]
def strV (x : List UInt8) : Value := .string (S x)
theorem str_info : (Tryz.prog.info? 9).map (fun i => (i.zero, i.size, i.bytes)) = some (some (.string ⟨#[]⟩), 1, 16) := by kernel_rfl
/-- a list of texts that a call made: a slice of its own -/
def Strs (B : Nat) (P : List (List UInt8)) (e : Ending) (w' : World) : Prop := ∃ v, e = .returned v ∧ w'.ownsRow B 9 1 v P.length (P.map strV)
set_option maxRecDepth 100000 in
set_option maxHeartbeats 1600000 in
theorem cut_text (s : ByteArray) (c : UInt8) (hs : s.size ≤ 1048576) (w : World) :
    Calls Tryz.prog 41 #[.string s, .int .u8 c.toNat] w fun e w' => Strs w.heap.size (piec c [] s.data.toList) e w' ∧ Below w.heap.size w w' := by
  obtain ⟨L, hL⟩ : ∃ L, L = s.data.toList := ⟨_, rfl⟩
  have hLs : L.length = s.size := by rw [hL]; exact Array.length_toList
  have HL := Lib.hid hL
  have HLS := Lib.hid hLs
  rw [← hL]
  clear hL hLs
  obtain ⟨i0, hi, hz0, hz1, hz2⟩ := info_parts str_info
  have HI := Lib.hid hi
  have HZ0 := Lib.hid hz0
  have HZ1 := Lib.hid hz1
  have HZ2 := Lib.hid hz2
  clear hi hz0 hz1 hz2
  go_enter Tryz.func41, Tryz.ntmps41
  go_wp2
  have ho := World.ownsRow_made (base := w.heap.size) (e := 9) (size := 1) w #[] 0 (Nat.le_refl _) (by unfold maxLen; omega) rfl
  have hb0 := new1 w (.cells #[] 9)
  obtain ⟨v0, hv0⟩ : ∃ v, v = Value.slice (some ⟨w.heap.size, 0, none⟩) 0 0 := ⟨_, rfl⟩
  rw [← hv0] at ho ⊢
  clear hv0
  generalize w.alloc (.cells #[] 9) = W0 at ho hb0 ⊢
  go_loopw [5, 6, 7] (fun v f i wr => ∃ (out : List (List UInt8)) (j k : Nat), j ≤ k ∧ k ≤ s.size ∧ out.length ≤ k ∧ f = .int .i64 j ∧ i = .int .i64 k ∧ Cuts c L out j k ∧ wr.ownsRow w.heap.size 9 1 v out.length (out.map strV) ∧ Below w.heap.size w wr) (fun _ _ i _ => s.size - (intOf i).toNat)
  case atStart => exact ⟨[], 0, 0, by omega, by omega, by simp, rfl, rfl, cuts_start c L, ho, hb0⟩
  case round =>
    obtain ⟨out, j, k, hjk, hk, hok, rfl, rfl, hcu, hown, hbr⟩ := hrel
    have HCU := Lib.hid hcu
    have HOWN := Lib.hid hown
    have HBR := Lib.hid hbr
    have hws : w.heap.size ≤ wr.heap.size := hbr.size
    have hbase : ∀ o, w.heap.size ≤ (wr.alloc o).heap.size := fun o => by simp; omega
    have hmax : out.length + 1 ≤ maxLen := by unfold maxLen; omega
    have hbyt : (out.length + 1) * 16 ≤ 140737488355328 := by omega
    clear hcu hown hbr ho hb0
    by_cases hlt : k < s.size
    · have hbk : L[k]? = some (s[k]'hlt) := by
        rw [HL.out, List.getElem?_eq_getElem (by rw [Array.length_toList]; exact hlt)]
        rfl
      have HBK := Lib.hid hbk
      clear hbk
      by_cases hc : s[k]'hlt = c
      · have t : (((s[k]'hlt).toNat : Int) == (c.toNat : Int)) = true := by simp [hc]
        have HC := Lib.hid hc
        have j1 : (0 : Int) ≤ (j : Int) := by omega
        have j2 : (j : Int) ≤ (k : Int) := by omega
        have j3 : (k : Int) ≤ (s.size : Int) := by omega
        clear hc
        go_wp2_with (at_builtin; refine wpList_append_own _ rfl _ _ 48 rfl w.heap.size 9 i0 (.string ⟨#[]⟩) 1 16 Tryz.underlying48 HI.out HZ0.out HZ1.out HZ2.out rfl (by decide) _ _ _ rfl (HOWN.out.alloc _) ⟨_, 0, none⟩ 1 1 [.string (s.extract j k)] rfl rfl (cell_one _ _ _) (one_str _) hmax hbyt (hbase _) ?_)
        intro v' w1 hown' hgrow _
        have hb4 : Below w.heap.size w w1 := (HBR.out.alloc HBR.out.size _).grown hgrow (hbase _) (fun q hq => (HOWN.out.lt q hq).1)
        have HB4 := Lib.hid hb4
        have HOWN' := Lib.hid hown'
        clear hown' hgrow hb4 hmax hbyt hbase
        go_wp2_with fail
        go_roundw
        case rel => exact ⟨out ++ [part L j k], k + 1, k + 1, by omega, by omega, by simp; omega, by go_num, by go_num, cuts_hit HCU.out HBK.out HC.out, by have h := HOWN'.out; rw [ext_part, ← HL.out, show Value.string (S (part L j k)) = strV (part L j k) from rfl] at h; simpa using h, HB4.out⟩
        case measure => simp [intOf]; omega
      · have t : (((s[k]'hlt).toNat : Int) == (c.toNat : Int)) = false := by
          have : ¬ (s[k]'hlt).toNat = c.toNat := fun e => hc (UInt8.toNat_inj.1 e)
          simp
          omega
        have HC := Lib.hid hc
        clear hc
        go_wp2_with fail
        go_roundw
        case rel => exact ⟨out, j, k + 1, by omega, by omega, by omega, rfl, by go_num, cuts_miss HCU.out hjk HBK.out HC.out, HOWN.out, HBR.out⟩
        case measure => simp [intOf]; omega
    · have e : k = s.size := by omega
      have HK := Lib.hid e
      clear e
      have j1 : (0 : Int) ≤ (j : Int) := by omega
      have j2 : (j : Int) ≤ (s.size : Int) := by omega
      go_wp2_with (at_builtin; refine wpList_append_own _ rfl _ _ 48 rfl w.heap.size 9 i0 (.string ⟨#[]⟩) 1 16 Tryz.underlying48 HI.out HZ0.out HZ1.out HZ2.out rfl (by decide) _ _ _ rfl (HOWN.out.alloc _) ⟨_, 0, none⟩ 1 1 [.string (s.extract j s.size)] rfl rfl (cell_one _ _ _) (one_str _) hmax hbyt (hbase _) ?_)
      intro v' w1 hown' hgrow _
      have hb4 : Below w.heap.size w w1 := (HBR.out.alloc HBR.out.size _).grown hgrow (hbase _) (fun q hq => (HOWN.out.lt q hq).1)
      have HB4 := Lib.hid hb4
      have HOWN' := Lib.hid hown'
      clear hown' hgrow hb4 hmax hbyt hbase
      go_wp2_with fail
      go_ret
      refine ⟨⟨_, rfl, ?_⟩, HB4.out⟩
      have hcu := HCU.out
      rw [HK.out, ← HLS.out] at hcu
      rw [cuts_end hcu]
      have h := HOWN'.out
      rw [ext_part, ← HL.out, ← HLS.out, show Value.string (S (part L j L.length)) = strV (part L j L.length) from rfl] at h
      simpa using h
theorem num_text (s : ByteArray) (hs : s.size ≤ 1048576) : ∃ x : Int, (∀ n, -1 ≤ n → n ≤ 99 → s = vS n → x = n) ∧
    ∀ w : World, Calls Tryz.prog 66 #[.string s] w fun e w' => e = .returned (.int .i64 x) ∧ Below w.heap.size w w' := by
  by_cases hd : s = ⟨#[45]⟩
  · subst hd
    refine ⟨-1, fun n h0 h1 h => ?_, fun w => ?_⟩
    · by_cases hn : n = -1
      · exact hn.symm
      · exfalso
        unfold vS at h
        rw [if_neg hn] at h
        have e : itoa n = [45] := by
          have := congrArg (fun x : ByteArray => x.data.toList) h
          exact this.symm
        unfold Go.Lib.itoa at e
        rw [if_neg (by omega)] at e
        have hb := Go.Proofs.YtleeglgjaifejaaGreatDoor.pieces.dec_bytes _ n.toNat (Nat.le_refl _) 45 (by rw [e]; simp)
        revert hb
        decide
    · go_enter Tryz.func66, Tryz.ntmps66
      go_wp2_with fail
      go_ret
      exact ⟨rfl, Below.refl _ _⟩
  · obtain ⟨x, b, hx, hC⟩ := spec_int s hs
    have hne : (s.toList == [45]) = false := by
      have : ¬ s.toList = [45] := fun e => hd (by
        have e2 : s.data.toList = [45] := by rw [← ByteArray.toList_eq]; exact e
        rw [← S_data s, e2]
        rfl)
      simpa using this
    have hnum : ∀ n, -1 ≤ n → n ≤ 99 → s = vS n → x = n ∧ b = true ∧ 0 ≤ n := by
      intro n h0 h1 h
      have hn : n ≠ -1 := by
        rintro rfl
        exact hd h
      unfold vS at h
      rw [if_neg hn] at h
      subst h
      exact ⟨(hx n (num_S n (by omega) (by omega))).1, (hx n (num_S n (by omega) (by omega))).2, by omega⟩
    have HC := Lib.hid hC
    clear hC
    cases b with
    | false =>
      refine ⟨-2, (fun n h0 h1 h => by have := (hnum n h0 h1 h).2.1; cases this), fun w => ?_⟩
      clear hx hd hnum
      go_enter Tryz.func66, Tryz.ntmps66
      go_wp2_with fail
      refine (HC.out w).mono ?_
      rintro e W ⟨rfl, hb⟩
      go_wp2_with fail
      go_ret
      exact ⟨rfl, hb⟩
    | true =>
      by_cases hneg : x < 0
      · refine ⟨-2, fun n h0 h1 h => by have := hnum n h0 h1 h; omega, fun w => ?_⟩
        have t : decide (x < 0) = true := decide_eq_true hneg
        clear hx hd hnum
        go_enter Tryz.func66, Tryz.ntmps66
        go_wp2_with fail
        refine (HC.out w).mono ?_
        rintro e W ⟨rfl, hb⟩
        go_wp2_with fail
        go_ret
        exact ⟨rfl, hb⟩
      · refine ⟨x, fun n h0 h1 h => (hnum n h0 h1 h).1, fun w => ?_⟩
        have t : decide (x < 0) = false := decide_eq_false hneg
        clear hx hd hnum
        go_enter Tryz.func66, Tryz.ntmps66
        go_wp2_with fail
        refine (HC.out w).mono ?_
        rintro e W ⟨rfl, hb⟩
        go_wp2_with fail
        go_ret
        exact ⟨rfl, hb⟩
end Go.Proofs.YtleeglgjaifejaaGreatDoor.sread
