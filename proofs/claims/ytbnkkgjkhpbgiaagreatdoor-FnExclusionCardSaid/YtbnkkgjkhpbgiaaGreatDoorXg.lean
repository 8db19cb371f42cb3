/- What the two listed errors give the walks; a world in which they lie as their initialisers lay them. -/
import Derived.Test.YtbnkkgjkhpbgiaaGreatDoorRl
import Derived.Test.YtbnkkgjkhpbgiaaGreatDoorRh
import Derived.Test.YtbnkkgjkhpbgiaaGreatDoorLast
import Derived.Test.YtbnkkgjkhpbgiaaGreatDoorTv
import Derived.Test.YtbnkkgjkhpbgiaaGreatDoorTvs
import Derived.Deep.RegionHeld3
import Derived.Test.YtbnkkgjkhpbgiaaGreatDoorOv
import Derived.Test.YtbnkkgjkhpbgiaaGreatDoorBx
import Derived.Test.YtbnkkgjkhpbgiaaGreatDoorRx
import Derived.Test.YtbnkkgjkhpbgiaaGreatDoorProg
import Derived.WalkKit
import Derived.LaidEql
import Derived.Stop.Asserts
import Derived.RowKitTokens
import Derived.Test.YtbnkkgjkhpbgiaaGreatDoorEl2
import Derived.Laws.Rows
import Derived.Laws.Tables
import Derived.Deep.OwnRows
import Derived.Test.YtbnkkgjkhpbgiaaGreatDoorRows
import Derived.Stop.LaidErr
import Derived.Shelf.Strconv.ErrVarAll
import Derived.LaidLaws
import Derived.Lib.LaidTab
import Derived.Deep.DeepHandedRow
import Derived.LaidHandle
/- Chapter 8, plain mathematics: the final window of a transaction. -/
namespace Go.Proofs.YtbnkkgjkhpbgiaaGreatDoor.em
open Go.Proofs.YtbnkkgjkhpbgiaaGreatDoor.el2 Go.Proofs.YtbnkkgjkhpbgiaaGreatDoor.tx Go.Proofs.YtbnkkgjkhpbgiaaGreatDoor.seq Go.Proofs.YtbnkkgjkhpbgiaaGreatDoor.tv Go.Proofs.YtbnkkgjkhpbgiaaGreatDoor.tf Go.Proofs.YtbnkkgjkhpbgiaaGreatDoor.rx Go.Proofs.YtbnkkgjkhpbgiaaGreatDoor.rl Go.Proofs.YtbnkkgjkhpbgiaaGreatDoor.rh Go.Proofs.YtbnkkgjkhpbgiaaGreatDoor.last
open Go.Proofs.YtbnkkgjkhpbgiaaGreatDoor.sl (Ver)
open Go.Proofs.YtbnkkgjkhpbgiaaGreatDoor.val (stB okL_ch_of st_ok st_six)
open Go.Proofs.YtbnkkgjkhpbgiaaGreatDoor.find (fndI lastV last_yes fnd_hit fnd_step)
open Go.Proofs.YtbnkkgjkhpbgiaaGreatDoor.ch (chB ch_of okV fol)
set_option linter.unusedVariables false
set_option linter.unusedSimpArgs false
/-! the store's latest version of a written key is the one that its mark names -/
theorem asc {l : List Ver} (h : chB l = true) : ∀ (d i : Nat) (x y : Ver), l[i]? = some x → l[i + d + 1]? = some y → x.c < y.c
  | 0, i, x, y, hx, hy => by
    have := (ch_of h).2.1 i x y hx hy
    simp [fol, Go.Proofs.YtbnkkgjkhpbgiaaGreatDoor.vers.fB] at this
    exact this.1
  | d + 1, i, x, y, hx, hy => by
    have hl := lt_get hy
    have hz : l[i + 1]? = some (l[i + 1]'(by omega)) := List.getElem?_eq_getElem _
    have h1 := asc h 0 i x _ hx hz
    have h2 := asc h d (i + 1) _ y hz (by rw [show i + 1 + d + 1 = i + (d + 1) + 1 by omega]; exact hy)
    omega
theorem fnd_upto {l : List Ver} {c : Int} : ∀ k, k ≤ l.length → (∀ (j : Nat) (x : Ver), j < k → l[j]? = some x → x.c ≠ c) → fndI c l 0 = fndI c (l.drop k) k
  | 0, _, _ => rfl
  | k + 1, h, hn => by
    have hx : l[k]? = some l[k] := List.getElem?_eq_getElem (by omega)
    exact fnd_step (fnd_upto k (by omega) (fun j x hj => hn j x (by omega))) hx (hn k _ (by omega) hx)
theorem okV_parts {x : Ver} (h : okV x = true) : 0 ≤ x.c ∧ x.c ≤ 999 ∧ 0 ≤ x.d ∧ x.d ≤ 999 ∧ 1 ≤ x.e ∧ x.e ≤ 1000 := by
  simp only [okV, Go.Proofs.YtbnkkgjkhpbgiaaGreatDoor.vers.vB, decide_eq_true_eq] at h
  obtain ⟨_, _, c1, c2, c3, c4, c5, c6, _⟩ := h
  omega
section
variable {C : List (List Ver)} {x : Hd} {R S : List E2}
theorem chain_key (hs : stB C = true) {k : Int} (h0 : 0 ≤ k) (h5 : k ≤ 5) : ∃ l, C[k.toNat]? = some l ∧ chB l = true ∧ chOf C k = l := by
  have h6 := st_six hs
  have hk : k.toNat < C.length := by omega
  have hg := List.getElem?_eq_getElem hk
  exact ⟨_, hg, okL_ch_of (st_ok hs hg), ch_at hg⟩
theorem last_at {l : List Ver} (hc : chB l = true) : ∃ y, l[l.length - 1]? = some y ∧ lastV l = y ∧ okV y = true ∧ fndI y.c l 0 = ((l.length - 1 : Nat) : Int) := by
  obtain ⟨h1, _, y, hy, _⟩ := ch_of hc
  refine ⟨y, hy, last_yes hc hy, h1 _ _ hy, ?_⟩
  have hu := fnd_upto (l := l) (c := y.c) (l.length - 1) (by omega) (fun j z hj hz e => by
    have := asc hc (l.length - 1 - j - 1) j z y hz (by rw [show j + (l.length - 1 - j - 1) + 1 = l.length - 1 by omega]; exact hy)
    omega)
  exact (fnd_hit hu hy rfl).symm
theorem lat_ok (hs : stB C = true) {m : E2} (h0 : 0 ≤ m.a) (h5 : m.a ≤ 5) : okV (latOf C m) = true := by
  obtain ⟨l, hl, hc, hch⟩ := chain_key hs h0 h5
  obtain ⟨y, _, hy, ho, _⟩ := last_at hc
  unfold latOf
  rw [hch, hy]; exact ho
/-! the ends of the final window -/
/-- the stamp may be given to a commit now -/
noncomputable def unB (C : List (List Ver)) (z : Int) : Bool := decide (lstS C < z) && decide (z ≤ 999)
noncomputable def fwB (C : List (List Ver)) (x : Hd) (R S : List E2) (z : Int) : Bool := rexB C x R S && decide (x.t = 1) && unB C z
noncomputable def fwL (C : List (List Ver)) (x : Hd) (R S : List E2) (z : Int) : Int := if fwB C x R S z = true then max x.l (rlI C x R S) else 0
noncomputable def fwH (C : List (List Ver)) (x : Hd) (R S : List E2) (z : Int) : Int := if fwB C x R S z = true then min (min x.h (rhI C x R S)) z else 0
theorem fwL_yes {z : Int} (h : fwB C x R S z = true) : fwL C x R S z = max x.l (rlI C x R S) := if_pos h
theorem fwH_yes {z : Int} (h : fwB C x R S z = true) : fwH C x R S z = min (min x.h (rhI C x R S)) z := if_pos h
theorem fwL_no {z : Int} (h : fwB C x R S z = false) : fwL C x R S z = 0 := if_neg (by rw [h]; exact Bool.false_ne_true)
theorem fwH_no {z : Int} (h : fwB C x R S z = false) : fwH C x R S z = 0 := if_neg (by rw [h]; exact Bool.false_ne_true)
theorem fw_rex {z : Int} (h : rexB C x R S = false) : fwB C x R S z = false := by simp [fwB, h]
theorem fw_act {z : Int} (h : ¬ x.t = 1) : fwB C x R S z = false := by simp [fwB, h]
theorem fw_un {z : Int} (h : unB C z = false) : fwB C x R S z = false := by simp [fwB, h]
theorem fw_all {z : Int} (h : rexB C x R S = true) (h1 : x.t = 1) (h2 : unB C z = true) : fwB C x R S z = true := by simp [fwB, h, h1, h2]
theorem fw_parts {z : Int} (h : fwB C x R S z = true) : rexB C x R S = true ∧ x.t = 1 ∧ unB C z = true := by
  simp only [fwB, Bool.and_eq_true, decide_eq_true_eq] at h
  exact ⟨h.1.1, h.1.2, h.2⟩
theorem rex_both (h : rexB C x R S = true) : bothB C x R S = true := by
  obtain ⟨h1, h2, _⟩ := rex_parts h
  exact both_yes h1 h2
/-! bounds -/
theorem mxL_range {l : List Ver} (h : ∀ v ∈ l, okV v = true) : ∀ m : Int, 0 ≤ m → m ≤ 999 → 0 ≤ mxL m l ∧ mxL m l ≤ 999 := by
  induction l with
  | nil => intro m h0 h1; exact ⟨h0, h1⟩
  | cons v r ih =>
    intro m h0 h1
    obtain ⟨a1, a2, a3, a4, _⟩ := okV_parts (h v (by simp))
    exact ih (fun u hu => h u (by simp [hu])) (mxV m v) (by unfold mxV; omega) (by unfold mxV; omega)
theorem mxS_range {C : List (List Ver)} (h : ∀ l ∈ C, ∀ v ∈ l, okV v = true) : ∀ m : Int, 0 ≤ m → m ≤ 999 → 0 ≤ C.foldl mxL m ∧ C.foldl mxL m ≤ 999 := by
  induction C with
  | nil => intro m h0 h1; exact ⟨h0, h1⟩
  | cons l r ih =>
    intro m h0 h1
    obtain ⟨b0, b1⟩ := mxL_range (h l (by simp)) m h0 h1
    exact ih (fun u hu => h u (by simp [hu])) (mxL m l) b0 b1
theorem st_vers (hs : stB C = true) : ∀ l ∈ C, ∀ v ∈ l, okV v = true := by
  intro l hl v hv
  obtain ⟨j, hj, rfl⟩ := List.getElem_of_mem hl
  obtain ⟨i, hi, rfl⟩ := List.getElem_of_mem hv
  exact (ch_of (okL_ch_of (st_ok hs (List.getElem?_eq_getElem hj)))).1 i _ (List.getElem?_eq_getElem hi)
theorem lst_range (C : List (List Ver)) : 0 ≤ lstS C ∧ lstS C ≤ 999 := by
  rcases hs : stB C with _ | _
  · rw [lst_no hs]; omega
  · rw [lst_yes hs]; exact mxS_range (st_vers hs) 0 (by omega) (by omega)
/-- the model's own test of the stamp -/
theorem un_spec (C : List (List Ver)) (z : Int) : (decide (lstS C + 1 ≤ z) && decide (z ≤ 999)) = unB C z := by
  unfold unB
  congr 1
theorem hdB_range {x : Hd} {R S : List E2} (h : txB x R S = true) : 0 ≤ x.l ∧ x.l ≤ 999 ∧ 1 ≤ x.h ∧ x.h ≤ 1000 := by
  simp only [txB, hdB, Go.Proofs.YtbnkkgjkhpbgiaaGreatDoor.vers.In, Bool.and_eq_true, decide_eq_true_eq] at h
  omega
theorem foldmax_range (P : List Int) (h : ∀ p ∈ P, p ≤ 999) : ∀ n : Int, 0 ≤ n → n ≤ 999 → 0 ≤ P.foldl (fun a p => max a p) n ∧ P.foldl (fun a p => max a p) n ≤ 999 := by
  induction P with
  | nil => intro n h0 h1; exact ⟨h0, h1⟩
  | cons p r ih =>
    intro n h0 h1
    have := h p (by simp)
    exact ih (fun q hq => h q (by simp [hq])) (max n p) (by omega) (by omega)
theorem rl_range (C : List (List Ver)) (x : Hd) (R S : List E2) : 0 ≤ rlI C x R S ∧ rlI C x R S ≤ 999 := by
  rcases hb : bothB C x R S with _ | _
  · rw [← rl_no hb]; omega
  · obtain ⟨hs, ht⟩ := both_parts hb
    have hR : ∀ p ∈ R.map (fun m => m.b), p ≤ 999 := by
      intro p hp
      rw [List.mem_map] at hp
      obtain ⟨m, hm, rfl⟩ := hp
      obtain ⟨j, hj, rfl⟩ := List.getElem_of_mem hm
      have := rd_ok (tx_rd ht) (List.getElem?_eq_getElem hj)
      simp only [okR, Go.Proofs.YtbnkkgjkhpbgiaaGreatDoor.vers.In, Bool.and_eq_true, decide_eq_true_eq] at this
      exact this.2.2
    have hS : ∀ p ∈ S.map (fun m => (latOf C m).d), p ≤ 999 := by
      intro p hp
      rw [List.mem_map] at hp
      obtain ⟨m, hm, rfl⟩ := hp
      obtain ⟨j, hj, rfl⟩ := List.getElem_of_mem hm
      have hk := wkey_of ht (List.getElem?_eq_getElem hj)
      have := okV_parts (lat_ok hs hk.1 hk.2)
      omega
    have h1 := foldmax_range _ hR 0 (by omega) (by omega)
    have h2 := foldmax_range _ hS _ h1.1 h1.2
    rw [List.foldl_map, List.foldl_map] at h2
    rw [rlI, if_pos hb]
    unfold loW loR
    rw [List.take_of_length_le (Nat.le_refl _), List.take_of_length_le (Nat.le_refl _)]
    exact h2
theorem hi_range (C : List (List Ver)) (L : List E2) (h : ∀ m ∈ L, 1 ≤ (verOf C m).e) : ∀ n : Int, 0 ≤ n → n ≤ 1000 → 0 ≤ L.foldl (fun h m => min h (verOf C m).e) n ∧ L.foldl (fun h m => min h (verOf C m).e) n ≤ 1000 := by
  induction L with
  | nil => intro n h0 h1; exact ⟨h0, h1⟩
  | cons m r ih =>
    intro n h0 h1
    have := h m (by simp)
    exact ih (fun q hq => h q (by simp [hq])) (min n (verOf C m).e) (by omega) (by omega)
theorem rh_range (C : List (List Ver)) (x : Hd) (R S : List E2) : 0 ≤ rhI C x R S ∧ rhI C x R S ≤ 1000 := by
  rcases hb : rexB C x R S with _ | _
  · rw [← rh_no hb]; omega
  · obtain ⟨hs, ht, hall⟩ := rex_parts hb
    rw [rhI, if_pos hb]
    unfold hiK
    rw [List.take_of_length_le (Nat.le_refl _)]
    refine hi_range C R (fun m hm => ?_) 1000 (by omega) (by omega)
    obtain ⟨j, hj, rfl⟩ := List.getElem_of_mem hm
    have hx := List.getElem?_eq_getElem hj
    have hk := key_of ht hx
    have hh := all_at hall hx
    obtain ⟨l, hl, hc, hch⟩ := chain_key hs hk.1 hk.2
    unfold hasV at hh
    rw [hch] at hh
    obtain ⟨i, hi, hil⟩ := fnd_lt (of_decide_eq_true hh)
    have hv := List.getElem?_eq_getElem hil
    rw [ver_at hl hi hv]
    exact (okV_parts ((ch_of hc).1 i _ hv)).2.2.2.2.1
theorem fwL_range (C : List (List Ver)) (x : Hd) (R S : List E2) (z : Int) : 0 ≤ fwL C x R S z ∧ fwL C x R S z ≤ 999 := by
  rcases h : fwB C x R S z with _ | _
  · rw [fwL_no h]; omega
  · rw [fwL_yes h]
    have h1 := rl_range C x R S
    have h2 := hdB_range (rex_parts (fw_parts h).1).2.1
    omega
theorem fwH_range (C : List (List Ver)) (x : Hd) (R S : List E2) (z : Int) : 0 ≤ fwH C x R S z ∧ fwH C x R S z ≤ 1000 := by
  rcases h : fwB C x R S z with _ | _
  · rw [fwH_no h]; omega
  · rw [fwH_yes h]
    have h1 := rh_range C x R S
    have h2 := hdB_range (rex_parts (fw_parts h).1).2.1
    have h3 := (fw_parts h).2.2
    have h4 := lst_range C
    simp only [unB, Bool.and_eq_true, decide_eq_true_eq] at h3
    omega
/-- may the transaction commit -/
noncomputable def mayB (C : List (List Ver)) (x : Hd) (R S : List E2) (z : Int) : Bool := fwB C x R S z && decide (fwL C x R S z < fwH C x R S z)
theorem may_no {z : Int} (h : fwB C x R S z = false) : mayB C x R S z = false := by simp [mayB, h]
theorem may_is {z : Int} (h : fwB C x R S z = true) : mayB C x R S z = decide (fwL C x R S z < fwH C x R S z) := by simp [mayB, h]
/-- the room -/
noncomputable def roomI (C : List (List Ver)) (x : Hd) (R S : List E2) (z : Int) : Int := fwH C x R S z - fwL C x R S z
theorem room_may {z : Int} : decide (0 < roomI C x R S z) = mayB C x R S z := by
  rcases h : fwB C x R S z with _ | _
  · rw [may_no h]
    unfold roomI
    rw [fwL_no h, fwH_no h]
    rfl
  · rw [may_is h]
    unfold roomI
    exact decide_eq_decide.2 (by omega)
end
end Go.Proofs.YtbnkkgjkhpbgiaaGreatDoor.em
/- isActive of the program: what it answers; nothing that was there is written. -/
namespace Go.Proofs.YtbnkkgjkhpbgiaaGreatDoor.ia
open Go.ChangeShapes Go.WideShapes Go.ChangeAt Go.RowKit
open Go.Proofs.YtbnkkgjkhpbgiaaGreatDoor.el2 Go.Proofs.YtbnkkgjkhpbgiaaGreatDoor.tx Go.Proofs.YtbnkkgjkhpbgiaaGreatDoor.seq Go.Proofs.YtbnkkgjkhpbgiaaGreatDoor.tv
open Go.Proofs.YtbnkkgjkhpbgiaaGreatDoor.vers (new2 In ret_b)
set_option linter.unusedVariables false
set_option linter.unusedSimpArgs false
noncomputable def actB (x : Hd) (R S : List E2) : Bool := txB x R S && decide (x.t = 1)
theorem act_t {x : Hd} {R S : List E2} (h : txB x R S = true) : decide (x.t = 1) = actB x R S := by simp [actB, h]
theorem act_f {x : Hd} {R S : List E2} (h : txB x R S = false) : false = actB x R S := by simp [actB, h]
set_option maxRecDepth 100000 in
set_option maxHeartbeats 1600000 in
theorem impl_active {w : World} {B n c n2 c2 : Nat} {A A2 : Option Addr} {R S : List E2} (x : Hd) (hn : n ≤ 1048576) (hn2 : n2 ≤ 1048576) (h1 : Vs w B A n R) (h2 : Vs w B A2 n2 S) (hB : B ≤ w.heap.size) :
    Calls Tryz.prog 25 #[.agg #[.int .i64 x.i, .int .i64 x.s, .int .i64 x.t, .int .i64 x.b, .int .i64 x.l, .int .i64 x.h, .int .i64 x.c, .slice A n c, .slice A2 n2 c2]] w fun e w' => e = .returned (.bool (actB x R S)) ∧ Below w.heap.size w w' := by
  have H1 := Lib.hid h1
  have H2 := Lib.hid h2
  clear h1 h2
  go_enter Tryz.func25, Tryz.ntmps25
  go_wp2_with fail
  have hb := new1 w (.cells #[.int .i64 x.i, .int .i64 x.s, .int .i64 x.t, .int .i64 x.b, .int .i64 x.l, .int .i64 x.h, .int .i64 x.c, .slice A n c, .slice A2 n2 c2] 30)
  have tb := TB.new w x A n c A2 n2 c2 30
  have hs : (w.alloc (.cells #[.int .i64 x.i, .int .i64 x.s, .int .i64 x.t, .int .i64 x.b, .int .i64 x.l, .int .i64 x.h, .int .i64 x.c, .slice A n c, .slice A2 n2 c2] 30)).heap.size = w.heap.size + 1 := by simp
  generalize w.alloc _ = W0 at hb tb hs ⊢
  have HB0 := Lib.hid hb
  have HT0 := Lib.hid tb
  obtain ⟨t0, t1, t2, t3, t4, t5, t6, t7, t8⟩ := tb
  clear hb
  go_wp2_with fail
  refine (impl_tx x (by omega) (by omega) (H1.out.below (below_le HB0.out hB)) (H2.out.below (below_le HB0.out hB)) (by omega)).mono ?_
  rintro e W1 ⟨rfl, hb1⟩
  clear t0 t1 t2 t3 t4 t5 t6 t7 t8
  obtain ⟨t0, t1, t2, t3, t4, t5, t6, t7, t8⟩ := HT0.out.keep (by omega) hb1
  have HB1 := Lib.hid (HB0.out.trans (hb1.mono (by omega)))
  clear hb1 t0 t1 t3 t4 t5 t6 t7 t8
  rcases hq : txB x R S with _ | _
  · have HQ := Lib.hid hq
    clear hq
    go_wp2_with fail
    go_ret
    exact ⟨ret_b (act_f HQ.out), HB1.out⟩
  · have HQ := Lib.hid hq
    clear hq
    go_wp2_with fail
    go_ret
    exact ⟨ret_b (by rw [← act_t HQ.out, Bool.eq_iff_iff]; simp), HB1.out⟩
end Go.Proofs.YtbnkkgjkhpbgiaaGreatDoor.ia
/- FinalWindow, WindowRoom, IsExcluded of the program and of the model: what each answers; nothing that was there is written. -/
namespace Go.Proofs.YtbnkkgjkhpbgiaaGreatDoor.fw
open Go.ChangeShapes Go.WideShapes Go.ChangeAt Go.RowKit
open Go.Proofs.YtbnkkgjkhpbgiaaGreatDoor.el2 Go.Proofs.YtbnkkgjkhpbgiaaGreatDoor.tx Go.Proofs.YtbnkkgjkhpbgiaaGreatDoor.seq Go.Proofs.YtbnkkgjkhpbgiaaGreatDoor.tv Go.Proofs.YtbnkkgjkhpbgiaaGreatDoor.tf Go.Proofs.YtbnkkgjkhpbgiaaGreatDoor.rx Go.Proofs.YtbnkkgjkhpbgiaaGreatDoor.ri Go.Proofs.YtbnkkgjkhpbgiaaGreatDoor.rl Go.Proofs.YtbnkkgjkhpbgiaaGreatDoor.em Go.Proofs.YtbnkkgjkhpbgiaaGreatDoor.ia
open Go.Proofs.YtbnkkgjkhpbgiaaGreatDoor.vers (new2 ret_b)
open Go.Proofs.YtbnkkgjkhpbgiaaGreatDoor.sl (Ver)
open Go.Proofs.YtbnkkgjkhpbgiaaGreatDoor.st (Rs)
open Go.Proofs.YtbnkkgjkhpbgiaaGreatDoor.val (stB)
open Go.Proofs.YtbnkkgjkhpbgiaaGreatDoor.last (lstS)
set_option linter.unusedVariables false
set_option linter.unusedSimpArgs false
theorem ret_3 {a b a' b' : Int} {p q : Bool} (h : a = b) (h' : a' = b') (h2 : p = q) : Ending.returned (.tuple #[.int .i64 a, .int .i64 a', .bool p]) = .returned (.tuple #[.int .i64 b, .int .i64 b', .bool q]) := by rw [h, h', h2]
theorem min3 (x y z : Int) (w : World) : (Builtin.min_ #[3, 3, 3] 3 #[.int .i64 x, .int .i64 y, .int .i64 z]).run Tryz.prog w = .ok (.int .i64 (min (min x y) z)) w := by
  have e : (if y < x then y else x) = min x y := by
    rw [Int.min_def]
    split <;> split <;> omega
  have e2 : (if z < min x y then z else min x y) = min (min x y) z := by
    generalize min x y = u
    rw [Int.min_def]
    split <;> split <;> omega
  simp [Builtin.min_, Builtin.min2, e, e2]
/-- what is below a transaction's or a store's high end -/
noncomputable def excB (x : Hd) (R S : List E2) : Bool := txB x R S && decide (x.h ≤ x.l)
theorem exc_no {x : Hd} {R S : List E2} (h : txB x R S = false) : false = excB x R S := by simp [excB, h]
theorem exc_is {x : Hd} {R S : List E2} (h : txB x R S = true) : decide (x.h ≤ x.l) = excB x R S := by simp [excB, h]
theorem un_a {C : List (List Ver)} {z : Int} (h : ¬ lstS C < z) : false = unB C z := by simp [unB, h]
theorem un_b {C : List (List Ver)} {z : Int} (h : lstS C < z) : decide (z ≤ 999) = unB C z := by simp [unB, h]
set_option maxRecDepth 100000 in
set_option maxHeartbeats 1600000 in
theorem impl_un {w : World} {B N cN : Nat} {D : Option Addr} {C : List (List Ver)} (z : Int) (hN : N ≤ 1048576) (h3 : Rs w B D N C) (hB : B ≤ w.heap.size) :
    Calls Tryz.prog 26 #[.agg #[.slice D N cN], .int .i64 z] w fun e w' => e = .returned (.bool (unB C z)) ∧ Below w.heap.size w w' := by
  have H3 := Lib.hid h3
  clear h3
  obtain ⟨m, hm⟩ : ∃ m, lstS C = m := ⟨_, rfl⟩
  have HM := Lib.hid hm
  clear hm
  go_enter Tryz.func26, Tryz.ntmps26
  go_wp2_with fail
  have z0 := st.one_cell w (.slice D N cN) 26
  have hb0 := new1 w (.cells #[.slice D N cN] 26)
  have hs0 : (w.alloc (.cells #[.slice D N cN] 26)).heap.size = w.heap.size + 1 := by simp
  generalize w.alloc _ = W0 at z0 hb0 hs0 ⊢
  have HB0 := Lib.hid hb0
  clear hb0
  go_wp2_with fail
  refine (Go.Proofs.YtbnkkgjkhpbgiaaGreatDoor.last.impl_last (by omega) (H3.out.below (below_le HB0.out hB)) (by omega)).mono ?_
  rintro e W1 ⟨he, hb⟩
  rw [HM.out] at he
  subst he
  have HB1 := Lib.hid (HB0.out.trans (hb.mono HB0.out.size))
  clear hb z0
  by_cases hq : m < z
  · have t : decide (m < z) = true := decide_eq_true hq
    have HQ := Lib.hid hq
    clear hq
    go_wp2_with fail
    go_ret
    exact ⟨ret_b (un_b (by rw [HM.out]; exact HQ.out)), HB1.out⟩
  · have t : decide (m < z) = false := decide_eq_false hq
    have HQ := Lib.hid hq
    clear hq
    go_wp2_with fail
    go_ret
    exact ⟨ret_b (un_a (by rw [HM.out]; have := HQ.out; omega)), HB1.out⟩
set_option maxRecDepth 100000 in
set_option maxHeartbeats 3200000 in
theorem impl_fw {w : World} {B n c n2 c2 N cN : Nat} {A A2 D : Option Addr} {R S : List E2} {C : List (List Ver)} (x : Hd) (z : Int) (hn : n ≤ 1048576) (hn2 : n2 ≤ 1048576) (hN : N ≤ 1048576) (h1 : Vs w B A n R) (h2 : Vs w B A2 n2 S) (h3 : Rs w B D N C) (hB : B ≤ w.heap.size) :
    Calls Tryz.prog 7 #[.agg #[.slice D N cN], .agg #[.int .i64 x.i, .int .i64 x.s, .int .i64 x.t, .int .i64 x.b, .int .i64 x.l, .int .i64 x.h, .int .i64 x.c, .slice A n c, .slice A2 n2 c2], .int .i64 z] w fun e w' => e = .returned (.tuple #[.int .i64 (fwL C x R S z), .int .i64 (fwH C x R S z), .bool (fwB C x R S z)]) ∧ Below w.heap.size w w' := by
  have H1 := Lib.hid h1
  have H2 := Lib.hid h2
  have H3 := Lib.hid h3
  clear h1 h2 h3
  obtain ⟨q1, hq1⟩ : ∃ q, rlI C x R S = q := ⟨_, rfl⟩
  obtain ⟨q2, hq2⟩ : ∃ q, Go.Proofs.YtbnkkgjkhpbgiaaGreatDoor.rh.rhI C x R S = q := ⟨_, rfl⟩
  have HQ1 := Lib.hid hq1
  have HQ2 := Lib.hid hq2
  clear hq1 hq2
  go_enter Tryz.func7, Tryz.ntmps7
  go_wp2_with fail
  have hL := LS.mk2 w (.slice D N cN) 26 30 x A n c A2 n2 c2
  generalize ((w.alloc _).alloc _) = W0 at hL ⊢
  have L0 := Lib.hid hL
  have c0 := hL.st
  obtain ⟨t0, t1, t2, t3, t4, t5, t6, t7, t8⟩ := hL.tb
  clear hL
  go_wp2_with fail
  refine (impl_rex x (by omega) (by omega) (by omega) (H1.out.below (below_le L0.out.bel hB)) (H2.out.below (below_le L0.out.bel hB)) (H3.out.below (below_le L0.out.bel hB)) (by have := L0.out.size; omega)).mono ?_
  rintro e W1 ⟨rfl, hb⟩
  have L1 := Lib.hid (L0.out.call hb)
  clear hb c0 t0 t1 t2 t3 t4 t5 t6 t7 t8
  rcases hrx : rexB C x R S with _ | _
  · have HRX := Lib.hid hrx
    clear hrx
    go_wp2_with fail
    exact bodyPost_ret (v := .tuple #[.int .i64 0, .int .i64 0, .bool false]) (by simp [results, Tryz.results7, go_sem]) rfl ⟨ret_3 (fwL_no (fw_rex HRX.out)).symm (fwH_no (fw_rex HRX.out)).symm (fw_rex HRX.out).symm, L1.out.bel⟩
  have HRX := Lib.hid hrx
  clear hrx
  have c0 := L1.out.st
  obtain ⟨t0, t1, t2, t3, t4, t5, t6, t7, t8⟩ := L1.out.tb
  go_wp2_with fail
  refine (impl_active x (by omega) (by omega) (H1.out.below (below_le L1.out.bel hB)) (H2.out.below (below_le L1.out.bel hB)) (by have := L1.out.size; omega)).mono ?_
  rintro e W2 ⟨he, hb⟩
  rw [← act_t (rex_parts HRX.out).2.1] at he
  have L2 := Lib.hid (L1.out.call hb)
  clear hb c0 t0 t1 t2 t3 t4 t5 t6 t7 t8
  by_cases hx : x.t = 1
  case neg =>
    have e0 : decide (x.t = 1) = false := decide_eq_false hx
    rw [e0] at he
    subst he
    have HX := Lib.hid hx
    clear hx e0
    go_wp2_with fail
    exact bodyPost_ret (v := .tuple #[.int .i64 0, .int .i64 0, .bool false]) (by simp [results, Tryz.results7, go_sem]) rfl ⟨ret_3 (fwL_no (fw_act HX.out)).symm (fwH_no (fw_act HX.out)).symm (fw_act HX.out).symm, L2.out.bel⟩
  have e0 : decide (x.t = 1) = true := decide_eq_true hx
  rw [e0] at he
  subst he
  have HX := Lib.hid hx
  clear hx e0
  have c0 := L2.out.st
  obtain ⟨t0, t1, t2, t3, t4, t5, t6, t7, t8⟩ := L2.out.tb
  go_wp2_with fail
  refine (impl_un z (by omega) (H3.out.below (below_le L2.out.bel hB)) (by have := L2.out.size; omega)).mono ?_
  rintro e W3 ⟨rfl, hb⟩
  have L3 := Lib.hid (L2.out.call hb)
  clear hb c0 t0 t1 t2 t3 t4 t5 t6 t7 t8
  rcases hun : unB C z with _ | _
  · have HU := Lib.hid hun
    clear hun
    go_wp2_with fail
    exact bodyPost_ret (v := .tuple #[.int .i64 0, .int .i64 0, .bool false]) (by simp [results, Tryz.results7, go_sem]) rfl ⟨ret_3 (fwL_no (fw_un HU.out)).symm (fwH_no (fw_un HU.out)).symm (fw_un HU.out).symm, L3.out.bel⟩
  have HU := Lib.hid hun
  clear hun
  have HALL := Lib.hid (fw_all HRX.out HX.out HU.out)
  go_wp2_with fail
  have hbk0 : Below W3.heap.size W3 W3.drew := (Below.refl _ _).drew
  have M0 := Lib.hid (L3.out.call hbk0)
  have c0 := L3.out.st
  obtain ⟨t0, t1, t2, t3, t4, t5, t6, t7, t8⟩ := L3.out.tb
  go_region_held3 (fun w' => w'.cell? ⟨w.heap.size, 0, none⟩ = some (.slice D N cN) ∧ w'.cell? ⟨w.heap.size + 1, 0, none⟩ = some (.int .i64 x.i) ∧ w'.cell? ⟨w.heap.size + 1, 1, none⟩ = some (.int .i64 x.s) ∧ w'.cell? ⟨w.heap.size + 1, 2, none⟩ = some (.int .i64 x.t) ∧ w'.cell? ⟨w.heap.size + 1, 3, none⟩ = some (.int .i64 x.b) ∧ w'.cell? ⟨w.heap.size + 1, 4, none⟩ = some (.int .i64 x.l) ∧ w'.cell? ⟨w.heap.size + 1, 5, none⟩ = some (.int .i64 x.h) ∧ w'.cell? ⟨w.heap.size + 1, 6, none⟩ = some (.int .i64 x.c) ∧ w'.cell? ⟨w.heap.size + 1, 7, none⟩ = some (.slice A n c) ∧ w'.cell? ⟨w.heap.size + 1, 8, none⟩ = some (.slice A2 n2 c2)) (go_keep) (first | (go_at_call 27; (with_reducible refine (impl_rl x (by omega) (by omega) (by omega) (H1.out.below (below_le M0.out.bel hB)) (H2.out.below (below_le M0.out.bel hB)) (H3.out.below (below_le M0.out.bel hB)) (by have := M0.out.size; omega)).mono ?_); rintro e W4 ⟨he, hb⟩; rw [HQ1.out] at he; subst he; have hbk1 := hbk0.trans (hb.mono hbk0.size); clear hb; have M1 := Lib.hid (L3.out.call hbk1); have v0 := M1.out.st; obtain ⟨u00, u01, u02, u03, u04, u05, u06, u07, u08⟩ := M1.out.tb))
  have L4 := M1
  clear hbk0 c0 t0 t1 t2 t3 t4 t5 t6 t7 t8 hbk1 v0 u00 u01 u02 u03 u04 u05 u06 u07 u08 M0 M1
  try go_wp2_with fail
  have hmn := min3 x.h q2 z
  have hbk0 : Below W4.heap.size W4 W4.drew := (Below.refl _ _).drew
  have M0 := Lib.hid (L4.out.call hbk0)
  have c0 := L4.out.st
  obtain ⟨t0, t1, t2, t3, t4, t5, t6, t7, t8⟩ := L4.out.tb
  go_region_held3 (fun w' => w'.cell? ⟨w.heap.size, 0, none⟩ = some (.slice D N cN) ∧ w'.cell? ⟨w.heap.size + 1, 0, none⟩ = some (.int .i64 x.i) ∧ w'.cell? ⟨w.heap.size + 1, 1, none⟩ = some (.int .i64 x.s) ∧ w'.cell? ⟨w.heap.size + 1, 2, none⟩ = some (.int .i64 x.t) ∧ w'.cell? ⟨w.heap.size + 1, 3, none⟩ = some (.int .i64 x.b) ∧ w'.cell? ⟨w.heap.size + 1, 4, none⟩ = some (.int .i64 x.l) ∧ w'.cell? ⟨w.heap.size + 1, 5, none⟩ = some (.int .i64 x.h) ∧ w'.cell? ⟨w.heap.size + 1, 6, none⟩ = some (.int .i64 x.c) ∧ w'.cell? ⟨w.heap.size + 1, 7, none⟩ = some (.slice A n c) ∧ w'.cell? ⟨w.heap.size + 1, 8, none⟩ = some (.slice A2 n2 c2)) (go_keep) (first | (go_at_call 28; (with_reducible refine (Go.Proofs.YtbnkkgjkhpbgiaaGreatDoor.rh.impl_rh x (by omega) (by omega) (by omega) (H1.out.below (below_le M0.out.bel hB)) (H2.out.below (below_le M0.out.bel hB)) (H3.out.below (below_le M0.out.bel hB)) (by have := M0.out.size; omega)).mono ?_); rintro e W5 ⟨he, hb⟩; rw [HQ2.out] at he; subst he; have hbk1 := hbk0.trans (hb.mono hbk0.size); clear hb; have M1 := Lib.hid (L4.out.call hbk1); have v0 := M1.out.st; obtain ⟨u00, u01, u02, u03, u04, u05, u06, u07, u08⟩ := M1.out.tb))
  have L5 := M1
  clear hbk0 c0 t0 t1 t2 t3 t4 t5 t6 t7 t8 hbk1 v0 u00 u01 u02 u03 u04 u05 u06 u07 u08 M0 M1
  clear hmn
  try go_wp2_with fail
  exact bodyPost_ret (v := .tuple #[.int .i64 (max x.l q1), .int .i64 (min (min x.h q2) z), .bool true]) (by simp [results, Tryz.results7, go_sem]) rfl ⟨ret_3 (by rw [fwL_yes HALL.out, HQ1.out]) (by rw [fwH_yes HALL.out, HQ2.out]) HALL.out.symm, L5.out.bel⟩
set_option maxRecDepth 100000 in
set_option maxHeartbeats 3200000 in
theorem spec_fw {w : World} {B n c n2 c2 N cN : Nat} {A A2 D : Option Addr} {R S : List E2} {C : List (List Ver)} (x : Hd) (z : Int) (hn : n ≤ 1048576) (hn2 : n2 ≤ 1048576) (hN : N ≤ 1048576) (h1 : Vs w B A n R) (h2 : Vs w B A2 n2 S) (h3 : Rs w B D N C) (hB : B ≤ w.heap.size) :
    Calls Tryz.prog 8 #[.agg #[.slice D N cN], .agg #[.int .i64 x.i, .int .i64 x.s, .int .i64 x.t, .int .i64 x.b, .int .i64 x.l, .int .i64 x.h, .int .i64 x.c, .slice A n c, .slice A2 n2 c2], .int .i64 z] w fun e w' => e = .returned (.tuple #[.int .i64 (fwL C x R S z), .int .i64 (fwH C x R S z), .bool (fwB C x R S z)]) ∧ Below w.heap.size w w' := by
  have H1 := Lib.hid h1
  have H2 := Lib.hid h2
  have H3 := Lib.hid h3
  clear h1 h2 h3
  obtain ⟨q1, hq1⟩ : ∃ q, rlI C x R S = q := ⟨_, rfl⟩
  obtain ⟨q2, hq2⟩ : ∃ q, Go.Proofs.YtbnkkgjkhpbgiaaGreatDoor.rh.rhI C x R S = q := ⟨_, rfl⟩
  have HQ1 := Lib.hid hq1
  have HQ2 := Lib.hid hq2
  clear hq1 hq2
  go_enter Tryz.func8, Tryz.ntmps8
  go_wp2_with fail
  have hL := LS.mk2 w (.slice D N cN) 26 30 x A n c A2 n2 c2
  generalize ((w.alloc _).alloc _) = W0 at hL ⊢
  have L0 := Lib.hid hL
  have c0 := hL.st
  obtain ⟨t0, t1, t2, t3, t4, t5, t6, t7, t8⟩ := hL.tb
  clear hL
  go_wp2_with fail
  refine (spec_rex x (by omega) (by omega) (by omega) (H1.out.below (below_le L0.out.bel hB)) (H2.out.below (below_le L0.out.bel hB)) (H3.out.below (below_le L0.out.bel hB)) (by have := L0.out.size; omega)).mono ?_
  rintro e W1 ⟨rfl, hb⟩
  have L1 := Lib.hid (L0.out.call hb)
  clear hb c0 t0 t1 t2 t3 t4 t5 t6 t7 t8
  rcases hrx : rexB C x R S with _ | _
  · have HRX := Lib.hid hrx
    clear hrx
    go_wp2_with fail
    exact bodyPost_ret (v := .tuple #[.int .i64 0, .int .i64 0, .bool false]) (by simp [results, Tryz.results8, go_sem]) rfl ⟨ret_3 (fwL_no (fw_rex HRX.out)).symm (fwH_no (fw_rex HRX.out)).symm (fw_rex HRX.out).symm, L1.out.bel⟩
  have HRX := Lib.hid hrx
  clear hrx
  have c0 := L1.out.st
  obtain ⟨t0, t1, t2, t3, t4, t5, t6, t7, t8⟩ := L1.out.tb
  by_cases hx : x.t = 1
  case neg =>
    have e0 : (x.t != 1) = true := by simp [hx]
    have HX := Lib.hid hx
    clear hx
    go_wp2_with fail
    exact bodyPost_ret (v := .tuple #[.int .i64 0, .int .i64 0, .bool false]) (by simp [results, Tryz.results8, go_sem]) rfl ⟨ret_3 (fwL_no (fw_act HX.out)).symm (fwH_no (fw_act HX.out)).symm (fw_act HX.out).symm, L1.out.bel⟩
  have e0 : (x.t != 1) = false := by simp [hx]
  have HX := Lib.hid hx
  clear hx
  obtain ⟨m, hm⟩ : ∃ m, lstS C = m := ⟨_, rfl⟩
  have hr := lst_range C
  rw [hm] at hr
  obtain ⟨hr0, hr1⟩ := hr
  have HM := Lib.hid hm
  clear hm
  go_wp2_with fail
  clear e0
  refine (Go.Proofs.YtbnkkgjkhpbgiaaGreatDoor.last.spec_last (by omega) (H3.out.below (below_le L1.out.bel hB)) (by have := L1.out.size; omega)).mono ?_
  rintro e W2 ⟨he, hb⟩
  rw [HM.out] at he
  subst he
  have L2 := Lib.hid (L1.out.call hb)
  clear hb c0 t0 t1 t2 t3 t4 t5 t6 t7 t8
  go_wp2_with fail
  refine (Go.Proofs.YtbnkkgjkhpbgiaaGreatDoor.vers.in_range _ _ _ _).mono ?_
  rintro e W3 ⟨he, rfl⟩
  have hz : Go.Proofs.YtbnkkgjkhpbgiaaGreatDoor.vers.In (m + 1) 999 z = unB C z := by rw [← HM.out]; exact un_spec C z
  rw [hz] at he
  subst he
  clear hz
  rcases hun : unB C z with _ | _
  · have HU := Lib.hid hun
    clear hun
    go_wp2_with fail
    exact bodyPost_ret (v := .tuple #[.int .i64 0, .int .i64 0, .bool false]) (by simp [results, Tryz.results8, go_sem]) rfl ⟨ret_3 (fwL_no (fw_un HU.out)).symm (fwH_no (fw_un HU.out)).symm (fw_un HU.out).symm, L2.out.bel⟩
  have HU := Lib.hid hun
  clear hun hr0 hr1
  have HALL := Lib.hid (fw_all HRX.out HX.out HU.out)
  have hmn := min3 x.h q2 z
  go_wp2_with fail
  have hbk0 : Below W2.heap.size W2 W2.drew := (Below.refl _ _).drew
  have M0 := Lib.hid (L2.out.call hbk0)
  have c0 := L2.out.st
  obtain ⟨t0, t1, t2, t3, t4, t5, t6, t7, t8⟩ := L2.out.tb
  go_region_held3 (fun w' => w'.cell? ⟨w.heap.size, 0, none⟩ = some (.slice D N cN) ∧ w'.cell? ⟨w.heap.size + 1, 0, none⟩ = some (.int .i64 x.i) ∧ w'.cell? ⟨w.heap.size + 1, 1, none⟩ = some (.int .i64 x.s) ∧ w'.cell? ⟨w.heap.size + 1, 2, none⟩ = some (.int .i64 x.t) ∧ w'.cell? ⟨w.heap.size + 1, 3, none⟩ = some (.int .i64 x.b) ∧ w'.cell? ⟨w.heap.size + 1, 4, none⟩ = some (.int .i64 x.l) ∧ w'.cell? ⟨w.heap.size + 1, 5, none⟩ = some (.int .i64 x.h) ∧ w'.cell? ⟨w.heap.size + 1, 6, none⟩ = some (.int .i64 x.c) ∧ w'.cell? ⟨w.heap.size + 1, 7, none⟩ = some (.slice A n c) ∧ w'.cell? ⟨w.heap.size + 1, 8, none⟩ = some (.slice A2 n2 c2)) (go_keep) (first | (go_at_call 33; (with_reducible refine (Go.Proofs.YtbnkkgjkhpbgiaaGreatDoor.rh.spec_rh x (by omega) (by omega) (by omega) (H1.out.below (below_le M1.out.bel hB)) (H2.out.below (below_le M1.out.bel hB)) (H3.out.below (below_le M1.out.bel hB)) (by have := M1.out.size; omega)).mono ?_); rintro e W3 ⟨he, hb⟩; rw [HQ2.out] at he; subst he; have hbk2 := hbk1.trans (hb.mono hbk1.size); clear hb; have M2 := Lib.hid (L2.out.call hbk2); have v1 := M2.out.st; obtain ⟨u10, u11, u12, u13, u14, u15, u16, u17, u18⟩ := M2.out.tb) | (go_at_call 32; (with_reducible refine (spec_rl x (by omega) (by omega) (by omega) (H1.out.below (below_le M0.out.bel hB)) (H2.out.below (below_le M0.out.bel hB)) (H3.out.below (below_le M0.out.bel hB)) (by have := M0.out.size; omega)).mono ?_); rintro e V1 ⟨he, hb⟩; rw [HQ1.out] at he; subst he; have hbk1 := hbk0.trans (hb.mono hbk0.size); clear hb; have M1 := Lib.hid (L2.out.call hbk1); have v0 := M1.out.st; obtain ⟨u00, u01, u02, u03, u04, u05, u06, u07, u08⟩ := M1.out.tb))
  all_goals
    have L3 := M2
    clear hbk0 c0 t0 t1 t2 t3 t4 t5 t6 t7 t8 hbk1 v0 u00 u01 u02 u03 u04 u05 u06 u07 u08 hbk2 v1 u10 u11 u12 u13 u14 u15 u16 u17 u18 M0 M1 M2
    clear hmn
    try go_wp2_with fail
    exact bodyPost_ret (v := .tuple #[.int .i64 (max x.l q1), .int .i64 (min (min x.h q2) z), .bool true]) (by simp [results, Tryz.results8, go_sem]) rfl ⟨ret_3 (by rw [fwL_yes HALL.out, HQ1.out]) (by rw [fwH_yes HALL.out, HQ2.out]) HALL.out.symm, L3.out.bel⟩
set_option maxRecDepth 100000 in
set_option maxHeartbeats 3200000 in
theorem impl_room {w : World} {B n c n2 c2 N cN : Nat} {A A2 D : Option Addr} {R S : List E2} {C : List (List Ver)} (x : Hd) (z : Int) (hn : n ≤ 1048576) (hn2 : n2 ≤ 1048576) (hN : N ≤ 1048576) (h1 : Vs w B A n R) (h2 : Vs w B A2 n2 S) (h3 : Rs w B D N C) (hB : B ≤ w.heap.size) :
    Calls Tryz.prog 11 #[.agg #[.slice D N cN], .agg #[.int .i64 x.i, .int .i64 x.s, .int .i64 x.t, .int .i64 x.b, .int .i64 x.l, .int .i64 x.h, .int .i64 x.c, .slice A n c, .slice A2 n2 c2], .int .i64 z] w fun e w' => e = .returned (.int .i64 (roomI C x R S z)) ∧ Below w.heap.size w w' := by
  have H1 := Lib.hid h1
  have H2 := Lib.hid h2
  have H3 := Lib.hid h3
  clear h1 h2 h3
  obtain ⟨a, ha⟩ : ∃ q, fwL C x R S z = q := ⟨_, rfl⟩
  obtain ⟨b, hb0⟩ : ∃ q, fwH C x R S z = q := ⟨_, rfl⟩
  have hra := fwL_range C x R S z
  have hrb := fwH_range C x R S z
  rw [ha] at hra
  rw [hb0] at hrb
  obtain ⟨a0, a1⟩ := hra
  obtain ⟨b0, b1⟩ := hrb
  have HA := Lib.hid ha
  have HBB := Lib.hid hb0
  clear ha hb0
  go_enter Tryz.func11, Tryz.ntmps11
  go_wp2_with fail
  have hL := LS.mk2 w (.slice D N cN) 26 30 x A n c A2 n2 c2
  generalize ((w.alloc _).alloc _) = W0 at hL ⊢
  have L0 := Lib.hid hL
  have c0 := hL.st
  obtain ⟨t0, t1, t2, t3, t4, t5, t6, t7, t8⟩ := hL.tb
  clear hL
  go_wp2_with fail
  refine (impl_fw x z (by omega) (by omega) (by omega) (H1.out.below (below_le L0.out.bel hB)) (H2.out.below (below_le L0.out.bel hB)) (H3.out.below (below_le L0.out.bel hB)) (by have := L0.out.size; omega)).mono ?_
  rintro e W1 ⟨he, hb⟩
  rw [HA.out, HBB.out] at he
  have L1 := Lib.hid (L0.out.call hb)
  clear hb c0 t0 t1 t2 t3 t4 t5 t6 t7 t8
  rcases hq : fwB C x R S z with _ | _
  · rw [hq] at he
    subst he
    have HQ := Lib.hid hq
    have hab : b - a = 0 := by rw [← HA.out, ← HBB.out, fwL_no HQ.out, fwH_no HQ.out]; rfl
    have HAB := Lib.hid hab
    clear hq hab
    go_wp2_with fail
    go_ret
    exact ⟨Go.Proofs.YtbnkkgjkhpbgiaaGreatDoor.rl.ret_i (by unfold roomI; rw [HA.out, HBB.out] <;> first | done | rfl | exact HAB.out.symm), L1.out.bel⟩
  · rw [hq] at he
    subst he
    clear hq
    go_wp2_with fail
    go_ret
    exact ⟨Go.Proofs.YtbnkkgjkhpbgiaaGreatDoor.rl.ret_i (by unfold roomI; rw [HA.out, HBB.out]), L1.out.bel⟩
set_option maxRecDepth 100000 in
set_option maxHeartbeats 3200000 in
theorem spec_room {w : World} {B n c n2 c2 N cN : Nat} {A A2 D : Option Addr} {R S : List E2} {C : List (List Ver)} (x : Hd) (z : Int) (hn : n ≤ 1048576) (hn2 : n2 ≤ 1048576) (hN : N ≤ 1048576) (h1 : Vs w B A n R) (h2 : Vs w B A2 n2 S) (h3 : Rs w B D N C) (hB : B ≤ w.heap.size) :
    Calls Tryz.prog 12 #[.agg #[.slice D N cN], .agg #[.int .i64 x.i, .int .i64 x.s, .int .i64 x.t, .int .i64 x.b, .int .i64 x.l, .int .i64 x.h, .int .i64 x.c, .slice A n c, .slice A2 n2 c2], .int .i64 z] w fun e w' => e = .returned (.int .i64 (roomI C x R S z)) ∧ Below w.heap.size w w' := by
  have H1 := Lib.hid h1
  have H2 := Lib.hid h2
  have H3 := Lib.hid h3
  clear h1 h2 h3
  obtain ⟨a, ha⟩ : ∃ q, fwL C x R S z = q := ⟨_, rfl⟩
  obtain ⟨b, hb0⟩ : ∃ q, fwH C x R S z = q := ⟨_, rfl⟩
  have hra := fwL_range C x R S z
  have hrb := fwH_range C x R S z
  rw [ha] at hra
  rw [hb0] at hrb
  obtain ⟨a0, a1⟩ := hra
  obtain ⟨b0, b1⟩ := hrb
  have HA := Lib.hid ha
  have HBB := Lib.hid hb0
  clear ha hb0
  go_enter Tryz.func12, Tryz.ntmps12
  go_wp2_with fail
  have hL := LS.mk2 w (.slice D N cN) 26 30 x A n c A2 n2 c2
  generalize ((w.alloc _).alloc _) = W0 at hL ⊢
  have L0 := Lib.hid hL
  have c0 := hL.st
  obtain ⟨t0, t1, t2, t3, t4, t5, t6, t7, t8⟩ := hL.tb
  clear hL
  go_wp2_with fail
  refine (spec_fw x z (by omega) (by omega) (by omega) (H1.out.below (below_le L0.out.bel hB)) (H2.out.below (below_le L0.out.bel hB)) (H3.out.below (below_le L0.out.bel hB)) (by have := L0.out.size; omega)).mono ?_
  rintro e W1 ⟨he, hb⟩
  rw [HA.out, HBB.out] at he
  have L1 := Lib.hid (L0.out.call hb)
  clear hb c0 t0 t1 t2 t3 t4 t5 t6 t7 t8
  rcases hq : fwB C x R S z with _ | _
  · rw [hq] at he
    subst he
    have HQ := Lib.hid hq
    have hab : b - a = 0 := by rw [← HA.out, ← HBB.out, fwL_no HQ.out, fwH_no HQ.out]; rfl
    have HAB := Lib.hid hab
    clear hq hab
    go_wp2_with fail
    go_ret
    exact ⟨Go.Proofs.YtbnkkgjkhpbgiaaGreatDoor.rl.ret_i (by unfold roomI; rw [HA.out, HBB.out] <;> first | done | rfl | exact HAB.out.symm), L1.out.bel⟩
  · rw [hq] at he
    subst he
    clear hq
    go_wp2_with fail
    go_ret
    exact ⟨Go.Proofs.YtbnkkgjkhpbgiaaGreatDoor.rl.ret_i (by unfold roomI; rw [HA.out, HBB.out]), L1.out.bel⟩
end Go.Proofs.YtbnkkgjkhpbgiaaGreatDoor.fw
/- Chapter 8, plain mathematics: the marks of an excluding pair. -/
namespace Go.Proofs.YtbnkkgjkhpbgiaaGreatDoor.ep
open Go.Proofs.YtbnkkgjkhpbgiaaGreatDoor.el2 Go.Proofs.YtbnkkgjkhpbgiaaGreatDoor.tx Go.Proofs.YtbnkkgjkhpbgiaaGreatDoor.seq Go.Proofs.YtbnkkgjkhpbgiaaGreatDoor.tv Go.Proofs.YtbnkkgjkhpbgiaaGreatDoor.tf Go.Proofs.YtbnkkgjkhpbgiaaGreatDoor.rx Go.Proofs.YtbnkkgjkhpbgiaaGreatDoor.rl Go.Proofs.YtbnkkgjkhpbgiaaGreatDoor.rh Go.Proofs.YtbnkkgjkhpbgiaaGreatDoor.ov Go.Proofs.YtbnkkgjkhpbgiaaGreatDoor.last Go.Proofs.YtbnkkgjkhpbgiaaGreatDoor.em
open Go.Proofs.YtbnkkgjkhpbgiaaGreatDoor.sl (Ver)
open Go.Proofs.YtbnkkgjkhpbgiaaGreatDoor.val (stB okL_ch_of st_ok st_six)
open Go.Proofs.YtbnkkgjkhpbgiaaGreatDoor.find (fndI lastV last_yes fnd_hit fnd_step)
open Go.Proofs.YtbnkkgjkhpbgiaaGreatDoor.ch (chB ch_of okV fol)
set_option linter.unusedVariables false
set_option linter.unusedSimpArgs false
/-! a list of marks with what each asks: the first of the greatest -/
def up (s : Int × E2) (p : E2 × Int) : Int × E2 := if s.1 < p.2 then (p.2, p.1) else s
def fstAt (P : List (E2 × Int)) (v : Int) : E2 := match P.find? (fun p => decide (p.2 = v)) with
  | some p => p.1
  | none => ⟨0, 0⟩
theorem up_one (n : Int) (b : E2) (p : E2 × Int) : (up (n, b) p).1 = max n p.2 := by
  unfold up
  split <;> simp only at * <;> omega
theorem up_max (P : List (E2 × Int)) : ∀ (n : Int) (b : E2), (P.foldl up (n, b)).1 = P.foldl (fun a p => max a p.2) n := by
  induction P with
  | nil => intro n b; rfl
  | cons p r ih =>
    intro n b
    simp only [List.foldl_cons]
    rw [← up_one n b p]
    exact ih (up (n, b) p).1 (up (n, b) p).2
theorem max_ge (P : List (E2 × Int)) : ∀ n : Int, n ≤ P.foldl (fun a p => max a p.2) n := by
  induction P with
  | nil => intro n; exact Int.le_refl _
  | cons p r ih =>
    intro n
    have := ih (max n p.2)
    simp only [List.foldl_cons]
    omega
theorem up_fst (P : List (E2 × Int)) : ∀ (n : Int) (b : E2), ((P.foldl up (n, b)).1 = n ∧ (P.foldl up (n, b)).2 = b) ∨ (n < (P.foldl up (n, b)).1 ∧ fstAt P (P.foldl up (n, b)).1 = (P.foldl up (n, b)).2) := by
  induction P with
  | nil => intro n b; exact .inl ⟨rfl, rfl⟩
  | cons p r ih =>
    intro n b
    simp only [List.foldl_cons]
    by_cases h : n < p.2
    · have hu : up (n, b) p = (p.2, p.1) := if_pos h
      rw [hu]
      right
      rcases ih p.2 p.1 with ⟨h1, h2⟩ | ⟨h1, h2⟩
      · refine ⟨by omega, ?_⟩
        rw [h1, h2]
        simp [fstAt]
      · refine ⟨by omega, ?_⟩
        rw [← h2]
        have hne : decide (p.2 = (r.foldl up (p.2, p.1)).1) = false := decide_eq_false (by omega)
        simp only [fstAt, List.find?_cons, hne]
    · have hu : up (n, b) p = (n, b) := if_neg h
      rw [hu]
      rcases ih n b with h1 | ⟨h1, h2⟩
      · exact .inl h1
      · right
        refine ⟨h1, ?_⟩
        rw [← h2]
        have hne : decide (p.2 = (r.foldl up (n, b)).1) = false := decide_eq_false (by omega)
        simp only [fstAt, List.find?_cons, hne]
theorem max_start (P : List (E2 × Int)) (h0 : ∀ p ∈ P, 0 ≤ p.2) (hne : P ≠ []) : P.foldl (fun a p => max a p.2) (-1) = P.foldl (fun a p => max a p.2) 0 := by
  cases P with
  | nil => exact absurd rfl hne
  | cons p r =>
    have := h0 p (by simp)
    simp only [List.foldl_cons]
    rw [show max (-1) p.2 = max 0 p.2 by omega]
/-- the first of the greatest, as the model keeps it -/
theorem up_all (P : List (E2 × Int)) (h0 : ∀ p ∈ P, 0 ≤ p.2) (hne : P ≠ []) : (P.foldl up (-1, ⟨0, 0⟩)).2 = fstAt P (P.foldl (fun a p => max a p.2) 0) := by
  rw [← max_start P h0 hne, ← up_max P (-1) ⟨0, 0⟩]
  rcases up_fst P (-1) ⟨0, 0⟩ with ⟨h1, h2⟩ | ⟨h1, h2⟩
  · have h3 := up_max P (-1) ⟨0, 0⟩
    rw [max_start P h0 hne] at h3
    have := max_ge P 0
    omega
  · exact h2.symm
theorem fst_hit {P : List (E2 × Int)} {v : Int} {k : Nat} {p : E2 × Int} (hx : P[k]? = some p) (hv : p.2 = v) (hn : ∀ (j : Nat) (q : E2 × Int), j < k → P[j]? = some q → q.2 ≠ v) : fstAt P v = p.1 := by
  induction P generalizing k with
  | nil => simp at hx
  | cons q r ih =>
    cases k with
    | zero =>
      simp only [List.getElem?_cons_zero, Option.some.injEq] at hx
      subst hx
      simp [fstAt, hv]
    | succ k =>
      have hq : decide (q.2 = v) = false := decide_eq_false (hn 0 q (by omega) (by simp))
      have := ih (k := k) (by simpa using hx) (fun j y hj hy => hn (j + 1) y (by omega) (by simpa using hy))
      simp only [fstAt, List.find?_cons, hq] at this ⊢
      exact this
theorem fst_none {P : List (E2 × Int)} {v : Int} (hn : ∀ (j : Nat) (q : E2 × Int), P[j]? = some q → q.2 ≠ v) : fstAt P v = ⟨0, 0⟩ := by
  have : P.find? (fun p => decide (p.2 = v)) = none := by
    rw [List.find?_eq_none]
    intro q hq
    obtain ⟨j, hj, rfl⟩ := List.getElem_of_mem hq
    simp only [decide_eq_true_eq]
    exact hn j _ (List.getElem?_eq_getElem hj)
  simp [fstAt, this]
/-- of two lists laid one behind the other -/
theorem two_fst {P Q : List (E2 × Int)} {n : Nat} (hn : P.length = n) {k : Nat} : (P ++ Q)[n + k]? = Q[k]? := by
  rw [List.getElem?_append_right (by omega)]
  congr 1
  omega
section
variable {C : List (List Ver)} {x : Hd} {R S : List E2}
theorem ver_lat (hs : stB C = true) {m : E2} (h0 : 0 ≤ m.a) (h5 : m.a ≤ 5) : verOf C (ovM C m) = latOf C m ∧ hasV C (ovM C m) = true := by
  obtain ⟨l, hl, hc, hch⟩ := chain_key hs h0 h5
  obtain ⟨y, hy, hy2, ho, hf⟩ := last_at hc
  have hlat : latOf C m = y := by unfold latOf; rw [hch, hy2]
  refine ⟨?_, ?_⟩
  · unfold verOf
    simp only [ovM, hlat]
    rw [hch, hf]
    simp [List.getD, hy]
  · unfold hasV
    simp only [ovM, hlat]
    rw [hch, hf]
    exact decide_eq_true (by omega)
/-! the pair -/
noncomputable def candR (R : List E2) : List (E2 × Int) := R.map fun m => (m, m.b)
noncomputable def candS (C : List (List Ver)) (S : List E2) : List (E2 × Int) := S.map fun m => (ovM C m, (latOf C m).d)
noncomputable def cand (C : List (List Ver)) (R S : List E2) : List (E2 × Int) := candR R ++ candS C S
noncomputable def sucR (C : List (List Ver)) (R : List E2) : List (E2 × Int) := R.map fun m => (m, (verOf C m).e)
theorem candR_at {k : Nat} {y : E2} (h : R[k]? = some y) : (candR R)[k]? = some (y, y.b) := by simp [candR, h]
theorem candS_at {k : Nat} {y : E2} (h : S[k]? = some y) : (candS C S)[k]? = some (ovM C y, (latOf C y).d) := by simp [candS, h]
theorem sucR_at {k : Nat} {y : E2} (h : R[k]? = some y) : (sucR C R)[k]? = some (y, (verOf C y).e) := by simp [sucR, h]
theorem candR_len : (candR R).length = R.length := by simp [candR]
theorem candS_len : (candS C S).length = S.length := by simp [candS]
theorem cand_len : (cand C R S).length = R.length + S.length := by simp [cand, candR, candS]
theorem sucR_len : (sucR C R).length = R.length := by simp [sucR]
theorem cand_r {k : Nat} {y : E2} (h : R[k]? = some y) : (cand C R S)[k]? = some (y, y.b) := by
  have hk := lt_get h
  unfold cand
  rw [List.getElem?_append_left (by rw [candR_len]; exact hk)]
  exact candR_at h
theorem cand_s {n k : Nat} {y : E2} (hn : R.length = n) (h : S[k]? = some y) : (cand C R S)[n + k]? = some (ovM C y, (latOf C y).d) := by
  unfold cand
  rw [two_fst (by rw [candR_len]; exact hn)]
  exact candS_at h
noncomputable def xpB (C : List (List Ver)) (x : Hd) (R S : List E2) (z : Int) : Bool := fwB C x R S z && decide (rhI C x R S ≤ rlI C x R S)
noncomputable def xpL (C : List (List Ver)) (x : Hd) (R S : List E2) (z : Int) : E2 := if xpB C x R S z = true then fstAt (cand C R S) (rlI C x R S) else ⟨0, 0⟩
noncomputable def xpH (C : List (List Ver)) (x : Hd) (R S : List E2) (z : Int) : E2 := if xpB C x R S z = true then fstAt (sucR C R) (rhI C x R S) else ⟨0, 0⟩
theorem xp_no {z : Int} (h : fwB C x R S z = false) : xpB C x R S z = false := by simp [xpB, h]
theorem xp_lt {z : Int} (h : rlI C x R S < rhI C x R S) : xpB C x R S z = false := by simp [xpB]; intro _; omega
theorem xp_yes {z : Int} (h : fwB C x R S z = true) (h1 : rhI C x R S ≤ rlI C x R S) : xpB C x R S z = true := by simp [xpB, h, h1]
theorem xpL_no {z : Int} (h : xpB C x R S z = false) : xpL C x R S z = ⟨0, 0⟩ := if_neg (by rw [h]; exact Bool.false_ne_true)
theorem xpH_no {z : Int} (h : xpB C x R S z = false) : xpH C x R S z = ⟨0, 0⟩ := if_neg (by rw [h]; exact Bool.false_ne_true)
theorem xpL_yes {z : Int} (h : xpB C x R S z = true) : xpL C x R S z = fstAt (cand C R S) (rlI C x R S) := if_pos h
theorem xpH_yes {z : Int} (h : xpB C x R S z = true) : xpH C x R S z = fstAt (sucR C R) (rhI C x R S) := if_pos h
/-- RefreshLow is the greatest that is asked -/
theorem rl_cand (h : bothB C x R S = true) : rlI C x R S = (cand C R S).foldl (fun a p => max a p.2) 0 := by
  rw [rlI, if_pos h]
  unfold loW loR cand candR candS
  rw [List.take_of_length_le (Nat.le_refl _), List.take_of_length_le (Nat.le_refl _), List.foldl_append, List.foldl_map, List.foldl_map]
theorem cand_range (h : bothB C x R S = true) : ∀ p ∈ cand C R S, 0 ≤ p.2 ∧ p.2 ≤ 999 := by
  obtain ⟨hs, ht⟩ := both_parts h
  intro p hp
  unfold cand candR candS at hp
  simp only [List.mem_append, List.mem_map] at hp
  rcases hp with ⟨m, hm, rfl⟩ | ⟨m, hm, rfl⟩
  · obtain ⟨j, hj, rfl⟩ := List.getElem_of_mem hm
    have := rd_ok (tx_rd ht) (List.getElem?_eq_getElem hj)
    simp only [okR, Go.Proofs.YtbnkkgjkhpbgiaaGreatDoor.vers.In, Bool.and_eq_true, decide_eq_true_eq] at this
    simp only
    omega
  · obtain ⟨j, hj, rfl⟩ := List.getElem_of_mem hm
    have hk := wkey_of ht (List.getElem?_eq_getElem hj)
    have := okV_parts (lat_ok hs hk.1 hk.2)
    simp only
    omega
theorem max_le (P : List (E2 × Int)) {b : Int} (h : ∀ p ∈ P, p.2 ≤ b) : ∀ n : Int, n ≤ b → P.foldl (fun a p => max a p.2) n ≤ b := by
  induction P with
  | nil => intro n hn; exact hn
  | cons p r ih =>
    intro n hn
    have := h p (by simp)
    exact ih (fun q hq => h q (by simp [hq])) (max n p.2) (by omega)
theorem rl_le (h : bothB C x R S = true) : 0 ≤ rlI C x R S ∧ rlI C x R S ≤ 999 := by
  rw [rl_cand h]
  exact ⟨max_ge _ 0, max_le _ (fun p hp => (cand_range h p hp).2) 0 (by omega)⟩
/-! how the program finds the marks -/
theorem lm_read {k : Nat} {y : E2} {v : Int} (hx : R[k]? = some y) (hv : y.b = v) (hn : ∀ (j : Nat) (z : E2), j < k → R[j]? = some z → z.b ≠ v) : fstAt (cand C R S) v = y :=
  fst_hit (cand_r hx) hv fun j q hj hq => by
    have hjl : j < R.length := by have := lt_get hx; omega
    have hz := List.getElem?_eq_getElem hjl
    rw [cand_r (C := C) (S := S) hz] at hq
    cases hq
    exact hn j _ hj hz
theorem cand_cases {n k : Nat} {v : Int} (hn : R.length = n) (h1 : ∀ (j : Nat) (z : E2), R[j]? = some z → z.b ≠ v) (h2 : ∀ (j : Nat) (z : E2), j < k → S[j]? = some z → (latOf C z).d ≠ v) : ∀ (j : Nat) (q : E2 × Int), j < n + k → (cand C R S)[j]? = some q → q.2 ≠ v := by
  intro j q hj hq
  rcases Nat.lt_or_ge j n with hjn | hjn
  · have hz := List.getElem?_eq_getElem (show j < R.length by omega)
    rw [cand_r (C := C) (S := S) hz] at hq
    cases hq
    exact h1 j _ hz
  · obtain ⟨i, rfl⟩ : ∃ i, j = n + i := ⟨j - n, by omega⟩
    have hl := lt_get hq
    rw [cand_len] at hl
    have hz := List.getElem?_eq_getElem (show i < S.length by omega)
    rw [cand_s (C := C) hn hz] at hq
    cases hq
    exact h2 i _ (by omega) hz
theorem lm_over {n k : Nat} {y : E2} {v : Int} (hn : R.length = n) (hx : S[k]? = some y) (hv : (latOf C y).d = v) (h1 : ∀ (j : Nat) (z : E2), R[j]? = some z → z.b ≠ v) (h2 : ∀ (j : Nat) (z : E2), j < k → S[j]? = some z → (latOf C z).d ≠ v) : fstAt (cand C R S) v = ovM C y :=
  fst_hit (cand_s hn hx) hv fun j q hj hq => cand_cases hn h1 h2 j q hj hq
theorem lm_none {n n2 : Nat} {v : Int} (hn : R.length = n) (hn2 : S.length = n2) (h1 : ∀ (j : Nat) (z : E2), R[j]? = some z → z.b ≠ v) (h2 : ∀ (j : Nat) (z : E2), j < n2 → S[j]? = some z → (latOf C z).d ≠ v) : fstAt (cand C R S) v = ⟨0, 0⟩ :=
  fst_none fun j q hq => cand_cases hn h1 h2 j q (by have := lt_get hq; rw [cand_len] at this; omega) hq
theorem hm_hit {k : Nat} {y : E2} {v : Int} (hx : R[k]? = some y) (hv : (verOf C y).e = v) (hn : ∀ (j : Nat) (z : E2), j < k → R[j]? = some z → (verOf C z).e ≠ v) : fstAt (sucR C R) v = y :=
  fst_hit (sucR_at hx) hv fun j q hj hq => by
    have hjl : j < R.length := by have := lt_get hx; omega
    have hz := List.getElem?_eq_getElem hjl
    rw [sucR_at (C := C) hz] at hq
    cases hq
    exact hn j _ hj hz
theorem hm_none {n : Nat} {v : Int} (hl : R.length = n) (hn : ∀ (j : Nat) (z : E2), j < n → R[j]? = some z → (verOf C z).e ≠ v) : fstAt (sucR C R) v = ⟨0, 0⟩ :=
  fst_none fun j q hq => by
    have hjl := lt_get hq
    rw [sucR_len] at hjl
    have hz := List.getElem?_eq_getElem hjl
    rw [sucR_at (C := C) hz] at hq
    cases hq
    exact hn j _ (by omega) hz
theorem ne_step {α : Type} {l : List α} {f : α → Int} {v : Int} {k : Nat} {x : α} (h : ∀ (j : Nat) (z : α), j < k → l[j]? = some z → f z ≠ v) (hx : l[k]? = some x) (hv : f x ≠ v) : ∀ (j : Nat) (z : α), j < k + 1 → l[j]? = some z → f z ≠ v := by
  intro j z hj hz
  by_cases e : j = k
  · subst e
    rw [hx] at hz
    cases hz
    exact hv
  · exact h j z (by omega) hz
theorem ne_all {α : Type} {l : List α} {f : α → Int} {v : Int} {n : Nat} (hn : l.length = n) (h : ∀ (j : Nat) (z : α), j < n → l[j]? = some z → f z ≠ v) : ∀ (j : Nat) (z : α), l[j]? = some z → f z ≠ v := fun j z hz => h j z (by have := lt_get hz; omega) hz
theorem ret_m {m m' : E2} (h : m = m') : Ending.returned (.agg #[.int .i64 m.a, .int .i64 m.b]) = .returned (.agg #[.int .i64 m'.a, .int .i64 m'.b]) := by rw [h]
theorem ret_z {m' : E2} (h : ⟨0, 0⟩ = m') : Ending.returned (.agg #[.int .i64 0, .int .i64 0]) = .returned (.agg #[.int .i64 m'.a, .int .i64 m'.b]) := by rw [← h]
/-- the model's greatest, the program's first -/
theorem low_mark (h : bothB C x R S = true) (hne : R ≠ []) : (((cand C R S)).foldl up (-1, ⟨0, 0⟩)).2 = fstAt (cand C R S) (rlI C x R S) := by
  rw [rl_cand h]
  refine up_all _ (fun p hp => (cand_range h p hp).1) ?_
  intro e
  have := congrArg List.length e
  rw [cand_len] at this
  cases R with
  | nil => exact hne rfl
  | cons a b => simp at this
/-- RefreshHigh is Infinity or what a read's version has -/
theorem hi_att (C : List (List Ver)) (R : List E2) : hiK C R R.length = 1000 ∨ ∃ (k : Nat) (y : E2), R[k]? = some y ∧ (verOf C y).e = hiK C R R.length := by
  unfold hiK
  rw [List.take_of_length_le (Nat.le_refl _)]
  have key : ∀ (L : List E2) (n : Int), L.foldl (fun h m => min h (verOf C m).e) n = n ∨ ∃ y ∈ L, (verOf C y).e = L.foldl (fun h m => min h (verOf C m).e) n := by
    intro L
    induction L with
    | nil => intro n; exact .inl rfl
    | cons a b ih =>
      intro n
      simp only [List.foldl_cons]
      rcases ih (min n (verOf C a).e) with h | ⟨y, hy, he⟩
      · rw [h]
        by_cases hm : n ≤ (verOf C a).e
        · left; omega
        · right; exact ⟨a, by simp, by omega⟩
      · right; exact ⟨y, by simp [hy], he⟩
  rcases key R 1000 with h | ⟨y, hy, he⟩
  · exact .inl h
  · obtain ⟨j, hj, rfl⟩ := List.getElem_of_mem hy
    exact .inr ⟨j, _, List.getElem?_eq_getElem hj, he⟩
/-- of a pair there is a read that sets the high end -/
theorem xp_read {z : Int} (h : xpB C x R S z = true) : ∃ (k : Nat) (y : E2), R[k]? = some y ∧ (verOf C y).e = rhI C x R S := by
  simp only [xpB, Bool.and_eq_true, decide_eq_true_eq] at h
  obtain ⟨hr, _, _⟩ := fw_parts h.1
  have hl := rl_le (rex_both hr)
  have he : rhI C x R S = hiK C R R.length := if_pos hr
  rw [he] at h ⊢
  rcases hi_att C R with h1 | h1
  · omega
  · exact h1
theorem xp_parts {z : Int} (h : xpB C x R S z = true) : fwB C x R S z = true ∧ rhI C x R S ≤ rlI C x R S := by
  simp only [xpB, Bool.and_eq_true, decide_eq_true_eq] at h
  exact h
theorem xp_ne {z : Int} (h : xpB C x R S z = true) : R ≠ [] := by
  obtain ⟨k, y, hy, _⟩ := xp_read h
  rintro rfl
  simp at hy
/-- the mark that sets the high end is one of the reads -/
theorem xp_mem {z : Int} (h : xpB C x R S z = true) : xpH C x R S z ∈ R := by
  rw [xpH_yes h]
  obtain ⟨k, y, hy, he⟩ := xp_read h
  unfold fstAt
  rcases hf : (sucR C R).find? (fun p => decide (p.2 = rhI C x R S)) with _ | p
  · rw [List.find?_eq_none] at hf
    have := hf _ (List.mem_of_getElem? (sucR_at (C := C) hy))
    simp [he] at this
  · have := List.mem_of_find?_eq_some hf
    simp only [sucR, List.mem_map] at this
    obtain ⟨m, hm, rfl⟩ := this
    rw [hf]
    exact hm
theorem may_xp {z : Int} (h : xpB C x R S z = true) : mayB C x R S z = false := by
  obtain ⟨h1, h2⟩ := xp_parts h
  rw [may_is h1, fwL_yes h1, fwH_yes h1]
  exact decide_eq_false (by omega)
end
end Go.Proofs.YtbnkkgjkhpbgiaaGreatDoor.ep
/- A box of a mark that is written; the boxes of a store, of a transaction and of a mark. -/
namespace Go.Proofs.YtbnkkgjkhpbgiaaGreatDoor.mx
open Go.ChangeShapes Go.WideShapes Go.ChangeAt Go.RowKit
open Go.Proofs.YtbnkkgjkhpbgiaaGreatDoor.el2 Go.Proofs.YtbnkkgjkhpbgiaaGreatDoor.tx Go.Proofs.YtbnkkgjkhpbgiaaGreatDoor.bx Go.Proofs.YtbnkkgjkhpbgiaaGreatDoor.rx
open Go.Proofs.YtbnkkgjkhpbgiaaGreatDoor.vers (new2 new3)
open Go.Proofs.YtbnkkgjkhpbgiaaGreatDoor.sl (Ver)
open Go.Proofs.YtbnkkgjkhpbgiaaGreatDoor.st (Rs)
set_option linter.unusedVariables false
set_option linter.unusedSimpArgs false
/-- a box of a mark -/
def Mx (w : World) (b : Nat) (m : E2) : Prop := ∃ f, w.rowIs b 38 2 f ∧ f 0 = .int .i64 m.a ∧ f 1 = .int .i64 m.b
section
variable {w w' : World} {b : Nat} {x y : E2}
theorem Mx.cells (h : Mx w b x) : w.cell? ⟨b, 0, none⟩ = some (.int .i64 x.a) ∧ w.cell? ⟨b, 1, none⟩ = some (.int .i64 x.b) := by
  obtain ⟨f, hf, h0, h1⟩ := h
  exact ⟨(hf.cell (show 0 < 2 by decide)).trans (by rw [h0]), (hf.cell (show 1 < 2 by decide)).trans (by rw [h1])⟩
theorem Mx.fz (h : Mx w b x) (i : Nat) : w.frozen? ⟨b, i, none⟩ = false := by obtain ⟨f, hf, _⟩ := h; exact hf.frozen i
theorem Mx.lt (h : Mx w b x) : b < w.heap.size := by obtain ⟨f, hf, _⟩ := h; exact hf.lt
theorem Mx.of_block (h : Mx w b x) (hk : w'.heap[b]? = w.heap[b]?) : Mx w' b x := by obtain ⟨f, hf, hr⟩ := h; exact ⟨f, hf.of_block hk, hr⟩
theorem Mx.new (w : World) (x : E2) : Mx (w.alloc (.cells #[.int .i64 x.a, .int .i64 x.b] 38)) w.heap.size x :=
  ⟨fun i => if i = 0 then .int .i64 x.a else .int .i64 x.b, World.rowIs_alloc w #[.int .i64 x.a, .int .i64 x.b] 38 _ (fun i hi => by
    have : i = 0 ∨ i = 1 := by simp at hi; omega
    rcases this with rfl | rfl <;> rfl), rfl, rfl⟩
theorem Mx.zero (w : World) : Mx (w.alloc (.cells #[.int .i64 0, .int .i64 0] 38)) w.heap.size ⟨0, 0⟩ := Mx.new w ⟨0, 0⟩
theorem Mx.put (h : Mx w b y) (x : E2) : Mx (World.setCell (World.setCell w ⟨b, 0, none⟩ (.int .i64 x.a)) ⟨b, 1, none⟩ (.int .i64 x.b)) b x := by
  obtain ⟨f, hf, _⟩ := h
  exact ⟨_, (hf.set 0 (.int .i64 x.a)).set 1 (.int .i64 x.b), rfl, rfl⟩
theorem off2 (V : World) (bb : Nat) (v0 v1 : Value) : Off bb V (World.setCell (World.setCell V ⟨bb, 0, none⟩ v0) ⟨bb, 1, none⟩ v1) :=
  ((Off.refl bb V).setCell (p := ⟨bb, 0, none⟩) rfl _).setCell (p := ⟨bb, 1, none⟩) rfl _
/-- writing a block that is new since the start -/
theorem bel_off {w0 W W' : World} {q : Nat} (h : Below w0.heap.size w0 W) (ho : Off q W W') (hq : w0.heap.size ≤ q) : Below w0.heap.size w0 W' := h.trans (ho.below hq)
theorem Mx.keep {B : Nat} (h : Mx w b x) (hb : Below B w w') (hB : b < B) : Mx w' b x := h.of_block (hb.block b hB)
end
/-- the boxes of a store, of a transaction and of a mark -/
structure LM (w : World) (sv : Value) (x : Hd) (u1 u2 : Value) (m : E2) (W : World) : Prop where
  ls : LS w sv x u1 u2 W
  size : w.heap.size + 3 ≤ W.heap.size
  rb : Mx W (w.heap.size + 2) m
section
variable {w W W' : World} {x : Hd} {u1 u2 sv : Value} {m m' : E2}
theorem LS.keep {w W W' : World} {x : Hd} {u1 u2 sv : Value} (h : LS w sv x u1 u2 W) (hb : Below (w.heap.size + 2) W W') : LS w sv x u1 u2 W' :=
  ⟨h.bel.trans (hb.mono (by omega)), Nat.le_trans h.size hb.size, (hb.cell (p := ⟨w.heap.size, 0, none⟩) (by simp only; omega)).trans h.st, h.tb.keep (by omega) hb⟩
theorem LM.keep (h : LM w sv x u1 u2 m W) (hb : Below (w.heap.size + 3) W W') : LM w sv x u1 u2 m W' :=
  ⟨LS.keep h.ls (hb.mono (by omega)), Nat.le_trans h.size hb.size, h.rb.keep hb (by omega)⟩
theorem LM.call (h : LM w sv x u1 u2 m W) (hb : Below W.heap.size W W') : LM w sv x u1 u2 m W' := h.keep (below_le hb h.size)
theorem LM.put (h : LM w sv x u1 u2 m W) (m' : E2) : LM w sv x u1 u2 m' (World.setCell (World.setCell W ⟨w.heap.size + 2, 0, none⟩ (.int .i64 m'.a)) ⟨w.heap.size + 2, 1, none⟩ (.int .i64 m'.b)) :=
  have ho := off2 W (w.heap.size + 2) (.int .i64 m'.a) (.int .i64 m'.b)
  ⟨LS.keep h.ls (ho.below (Nat.le_refl _)), by rw [ho.size]; exact h.size, h.rb.put m'⟩
theorem LM.drew (h : LM w sv x u1 u2 m W) : LM w sv x u1 u2 m W.drew := h.call ((Below.refl _ _).drew)
end
theorem LM.mk3 (w : World) (x : Hd) (A A2 D : Option Addr) (n c n2 c2 N cN : Nat) : LM w (.slice D N cN) x (.slice A n c) (.slice A2 n2 c2) ⟨0, 0⟩ (((w.alloc (.cells #[.slice D N cN] 26)).alloc (.cells #[.int .i64 x.i, .int .i64 x.s, .int .i64 x.t, .int .i64 x.b, .int .i64 x.l, .int .i64 x.h, .int .i64 x.c, .slice A n c, .slice A2 n2 c2] 30)).alloc (.cells #[.int .i64 0, .int .i64 0] 38)) where
  ls := (LS.mk2 w (.slice D N cN) 26 30 x A n c A2 n2 c2).call (new1 _ _)
  size := by simp
  rb := by
    have h := Mx.zero ((w.alloc (.cells #[.slice D N cN] 26)).alloc (.cells #[.int .i64 x.i, .int .i64 x.s, .int .i64 x.t, .int .i64 x.b, .int .i64 x.l, .int .i64 x.h, .int .i64 x.c, .slice A n c, .slice A2 n2 c2] 30))
    rw [show ((w.alloc (.cells #[.slice D N cN] 26)).alloc (.cells #[.int .i64 x.i, .int .i64 x.s, .int .i64 x.t, .int .i64 x.b, .int .i64 x.l, .int .i64 x.h, .int .i64 x.c, .slice A n c, .slice A2 n2 c2] 30)).heap.size = w.heap.size + 2 by simp] at h
    exact h
end Go.Proofs.YtbnkkgjkhpbgiaaGreatDoor.mx
/- lowMark, highMark of the program: what each answers; nothing that was there is written. -/
namespace Go.Proofs.YtbnkkgjkhpbgiaaGreatDoor.lm
open Go.ChangeShapes Go.WideShapes Go.ChangeAt Go.RowKit
open Go.Proofs.YtbnkkgjkhpbgiaaGreatDoor.el2 Go.Proofs.YtbnkkgjkhpbgiaaGreatDoor.tx Go.Proofs.YtbnkkgjkhpbgiaaGreatDoor.seq Go.Proofs.YtbnkkgjkhpbgiaaGreatDoor.tv Go.Proofs.YtbnkkgjkhpbgiaaGreatDoor.tf Go.Proofs.YtbnkkgjkhpbgiaaGreatDoor.rx Go.Proofs.YtbnkkgjkhpbgiaaGreatDoor.ri Go.Proofs.YtbnkkgjkhpbgiaaGreatDoor.rl Go.Proofs.YtbnkkgjkhpbgiaaGreatDoor.ov Go.Proofs.YtbnkkgjkhpbgiaaGreatDoor.bx Go.Proofs.YtbnkkgjkhpbgiaaGreatDoor.mx Go.Proofs.YtbnkkgjkhpbgiaaGreatDoor.em Go.Proofs.YtbnkkgjkhpbgiaaGreatDoor.ep
open Go.Proofs.YtbnkkgjkhpbgiaaGreatDoor.vers (new2)
open Go.Proofs.YtbnkkgjkhpbgiaaGreatDoor.sl (Ver)
open Go.Proofs.YtbnkkgjkhpbgiaaGreatDoor.st (Rs)
open Go.Proofs.YtbnkkgjkhpbgiaaGreatDoor.val (stB)
set_option linter.unusedVariables false
set_option linter.unusedSimpArgs false
set_option maxRecDepth 100000 in
set_option maxHeartbeats 3200000 in
theorem impl_hm {w : World} {B n c n2 c2 N cN : Nat} {A A2 D : Option Addr} {R S : List E2} {C : List (List Ver)} (x : Hd) (v : Int) (hn : n ≤ 1048576) (hn2 : n2 ≤ 1048576) (hN : N ≤ 1048576) (h1 : Vs w B A n R) (h2 : Vs w B A2 n2 S) (h3 : Rs w B D N C) (hB : B ≤ w.heap.size) (hr : rexB C x R S = true) :
    Calls Tryz.prog 60 #[.agg #[.slice D N cN], .agg #[.int .i64 x.i, .int .i64 x.s, .int .i64 x.t, .int .i64 x.b, .int .i64 x.l, .int .i64 x.h, .int .i64 x.c, .slice A n c, .slice A2 n2 c2], .int .i64 v] w fun e w' => e = .returned (.agg #[.int .i64 (fstAt (sucR C R) v).a, .int .i64 (fstAt (sucR C R) v).b]) ∧ Below w.heap.size w w' := by
  have H1 := Lib.hid h1
  have H2 := Lib.hid h2
  have H3 := Lib.hid h3
  have hln := h1.1
  have hln2 := h2.1
  have HRX := Lib.hid hr
  clear h1 h2 h3 hr
  go_enter Tryz.func60, Tryz.ntmps60
  go_wp2_with fail
  have hL := LM.mk3 w x A A2 D n c n2 c2 N cN
  generalize (((w.alloc _).alloc _).alloc _) = W0 at hL ⊢
  have L0 := Lib.hid hL
  clear hL
  go_loopw [8, 12] (fun _ i wr => ∃ k : Nat, k ≤ n ∧ i = .int .i64 k ∧ (∀ (j : Nat) (z : E2), j < k → R[j]? = some z → (verOf C z).e ≠ v) ∧ LM w (.slice D N cN) x (.slice A n c) (.slice A2 n2 c2) ⟨0, 0⟩ wr) (fun _ i _ => n - (intOf i).toNat)
  case atStart => exact ⟨0, by omega, rfl, fun j z hj => absurd hj (by omega), L0.out⟩
  case round =>
    obtain ⟨k, hk, rfl, hP, hL⟩ := hrel
    have LW := Lib.hid hL
    have HPP := Lib.hid hP
    clear hL hP
    by_cases hlt : k < n
    · obtain ⟨b, o, y, rfl, hbB, hx, a0, a1⟩ := (H1.out.below (below_le LW.out.ls.bel hB)).at_ hlt
      obtain ⟨hst, htx, hall⟩ := rex_parts HRX.out
      have hkey := key_of htx hx
      have hhas := all_at hall hx
      have h6 := val.st_six hst
      rw [H3.out.1] at h6
      have HX := Lib.hid hx
      have HH := Lib.hid hhas
      obtain ⟨s1, s2⟩ := hkey
      have s3 : y.a < (N : Int) := by omega
      clear h6 hst htx hall hx hhas
      go_wp2_with fail
      have hb := new1 wr (.cells #[.int .i64 y.a, .int .i64 y.b] 38)
      have mb := boxed wr y 38
      have hsz := LW.out.size
      have LX := Lib.hid (LW.out.call hb)
      have hs1 : wr.heap.size < (wr.alloc (.cells #[.int .i64 y.a, .int .i64 y.b] 38)).heap.size := by simp
      clear hb a0 a1
      generalize wr.alloc _ = W2 at LX mb hs1 ⊢
      have MB := Lib.hid mb
      clear mb
      refine (impl_vof y w.heap.size (by have := LX.out.size; omega) LX.out.ls.st s1 s3 (H3.out.below (below_le LX.out.ls.bel hB)) (by have := LX.out.size; omega)).mono ?_
      rintro e W3 ⟨⟨hn, rfl⟩ | ⟨hn, b4, o4, rfl, hbB4, hA⟩, hb1⟩
      · exact absurd hn (by rw [HH.out]; exact fun h => by cases h)
      · have L3 := Lib.hid (LX.out.call hb1)
        obtain ⟨m0, m1⟩ := atFlat (MB.out.keep hs1 hb1)
        obtain ⟨e0, e1, e2, e3, e4⟩ := hA
        obtain ⟨u, hu⟩ : ∃ u, (verOf C y).e = u := ⟨_, rfl⟩
        rw [hu] at e4
        have HU := Lib.hid hu
        clear hb1 e0 e1 e2 e3 hn hu
        by_cases huv : u = v
        · subst huv
          have t : (u == u) = true := by simp
          obtain ⟨z0, z1⟩ := L3.out.rb.cells
          have f0 := L3.out.rb.fz 0
          have f1 := L3.out.rb.fz 1
          go_wp2_with fail
          have hp := L3.out.put y
          clear z0 z1 f0 f1
          generalize World.setCell (World.setCell _ _ _) _ _ = W9 at hp ⊢
          obtain ⟨e0, e1⟩ := hp.rb.cells
          exact bodyPost_ret (v := .agg #[.int .i64 y.a, .int .i64 y.b]) (by simp [results, Tryz.results60, go_sem, e0, e1]) rfl ⟨ret_m (hm_hit HX.out HU.out HPP.out).symm, hp.ls.bel⟩
        · have t : (u == v) = false := by simpa using huv
          have HUV := Lib.hid huv
          clear huv
          go_wp2_with fail
          go_roundw
          case rel => exact ⟨k + 1, by omega, by go_num, ne_step (f := fun z => (verOf C z).e) HPP.out HX.out (by rw [HU.out]; exact HUV.out), L3.out⟩
          case measure => simp [intOf]; omega
    · obtain rfl : n = k := by omega
      obtain ⟨z0, z1⟩ := LW.out.rb.cells
      have f0 := LW.out.rb.fz 0
      have f1 := LW.out.rb.fz 1
      go_wp2_with fail
      have hp := LW.out.put (⟨0, 0⟩ : E2)
      clear z0 z1 f0 f1
      generalize World.setCell (World.setCell _ _ _) _ _ = W9 at hp ⊢
      obtain ⟨e0, e1⟩ := hp.rb.cells
      exact bodyPost_ret (v := .agg #[.int .i64 (⟨0, 0⟩ : E2).a, .int .i64 (⟨0, 0⟩ : E2).b]) (by simp [results, Tryz.results60, go_sem, e0, e1]) rfl ⟨ret_z (hm_none hln HPP.out).symm, hp.ls.bel⟩
set_option maxRecDepth 100000 in
set_option maxHeartbeats 3200000 in
theorem impl_lm {w : World} {B n c n2 c2 N cN : Nat} {A A2 D : Option Addr} {R S : List E2} {C : List (List Ver)} (x : Hd) (v : Int) (hn : n ≤ 1048576) (hn2 : n2 ≤ 1048576) (hN : N ≤ 1048576) (h1 : Vs w B A n R) (h2 : Vs w B A2 n2 S) (h3 : Rs w B D N C) (hB : B ≤ w.heap.size) (hr : rexB C x R S = true) :
    Calls Tryz.prog 59 #[.agg #[.slice D N cN], .agg #[.int .i64 x.i, .int .i64 x.s, .int .i64 x.t, .int .i64 x.b, .int .i64 x.l, .int .i64 x.h, .int .i64 x.c, .slice A n c, .slice A2 n2 c2], .int .i64 v] w fun e w' => e = .returned (.agg #[.int .i64 (fstAt (cand C R S) v).a, .int .i64 (fstAt (cand C R S) v).b]) ∧ Below w.heap.size w w' := by
  have H1 := Lib.hid h1
  have H2 := Lib.hid h2
  have H3 := Lib.hid h3
  have hln := h1.1
  have hln2 := h2.1
  have HRX := Lib.hid hr
  clear h1 h2 h3 hr
  go_enter Tryz.func59, Tryz.ntmps59
  go_wp2_with fail
  have hL := LM.mk3 w x A A2 D n c n2 c2 N cN
  generalize (((w.alloc _).alloc _).alloc _) = W0 at hL ⊢
  have L0 := Lib.hid hL
  clear hL
  go_loopw [8, 14] (fun _ i wr => ∃ k : Nat, k ≤ n ∧ i = .int .i64 k ∧ (∀ (j : Nat) (z : E2), j < k → R[j]? = some z → z.b ≠ v) ∧ LM w (.slice D N cN) x (.slice A n c) (.slice A2 n2 c2) ⟨0, 0⟩ wr) (fun _ i _ => n - (intOf i).toNat)
  case atStart => exact ⟨0, by omega, rfl, fun j z hj => absurd hj (by omega), L0.out⟩
  case round =>
    obtain ⟨k, hk, rfl, hP, hL⟩ := hrel
    have LW := Lib.hid hL
    have HPP := Lib.hid hP
    clear hL hP
    by_cases hlt : k < n
    · obtain ⟨b, o, y, rfl, hbB, hx, a0, a1⟩ := (H1.out.below (below_le LW.out.ls.bel hB)).at_ hlt
      have HX := Lib.hid hx
      clear hx
      have LX := Lib.hid (LW.out.call (new1 wr (.cells #[.int .i64 y.a, .int .i64 y.b] 38)))
      by_cases huv : y.b = v
      · have t : (y.b == v) = true := by simpa using huv
        have HUV := Lib.hid huv
        clear huv
        obtain ⟨z0, z1⟩ := LX.out.rb.cells
        have f0 := LX.out.rb.fz 0
        have f1 := LX.out.rb.fz 1
        go_wp2_with fail
        have hp := LX.out.put y
        clear z0 z1 f0 f1
        generalize World.setCell (World.setCell _ _ _) _ _ = W9 at hp ⊢
        obtain ⟨e0, e1⟩ := hp.rb.cells
        exact bodyPost_ret (v := .agg #[.int .i64 y.a, .int .i64 y.b]) (by simp [results, Tryz.results59, go_sem, e0, e1]) rfl ⟨ret_m (lm_read HX.out HUV.out HPP.out).symm, hp.ls.bel⟩
      · have t : (y.b == v) = false := by simpa using huv
        have HUV := Lib.hid huv
        clear huv
        go_wp2_with fail
        go_roundw
        case rel => exact ⟨k + 1, by omega, by go_num, ne_step (f := fun z => z.b) HPP.out HX.out HUV.out, LX.out⟩
        case measure => simp [intOf]; omega
    · obtain rfl : n = k := by omega
      have HNR := Lib.hid (ne_all (f := fun z => z.b) hln HPP.out)
      have c0 := LW.out.ls.st
      obtain ⟨t0, t1, t2, t3, t4, t5, t6, t7, t8⟩ := LW.out.ls.tb
      obtain ⟨l, hlq⟩ : ∃ l, ovL C x R S = l := ⟨_, rfl⟩
      have hov : l = S.map (ovM C) := by rw [← hlq]; exact if_pos (rex_both HRX.out)
      have hq : l.length = n2 := by rw [hov, List.length_map]; exact hln2
      have HLQ := Lib.hid hlq
      have HQ := Lib.hid hq
      have HOV := Lib.hid hov
      clear hlq hq hov
      go_wp2_with fail
      refine (impl_ov x (by omega) (by omega) (by omega) (H1.out.below (below_le LW.out.ls.bel hB)) (H2.out.below (below_le LW.out.ls.bel hB)) (H3.out.below (below_le LW.out.ls.bel hB)) (by have := LW.out.size; omega)).mono ?_
      rintro e W1 ⟨A7, c7, he, ho, hb⟩
      rw [HLQ.out, HQ.out] at he ho
      subst he
      have L1 := Lib.hid (LW.out.call hb)
      obtain ⟨A8, c8, hv8, hvs⟩ := own_vs ho HQ.out
      obtain ⟨rfl, -, rfl⟩ : A8 = A7 ∧ True ∧ c8 = c7 := by injection hv8 with e1 e2 e3; exact ⟨e1.symm, trivial, e3.symm⟩
      have HV := Lib.hid (show Vs W1 W1.heap.size A8 n2 l from hvs.1)
      clear hb ho hv8 hvs c0 t0 t1 t2 t3 t4 t5 t6 t7 t8
      go_wp2_with fail
      go_loopw [10, 28] (fun _ i wr => ∃ k : Nat, k ≤ n2 ∧ i = .int .i64 k ∧ (∀ (j : Nat) (z : E2), j < k → S[j]? = some z → (latOf C z).d ≠ v) ∧ LM w (.slice D N cN) x (.slice A n c) (.slice A2 n2 c2) ⟨0, 0⟩ wr ∧ Below W1.heap.size W1 wr) (fun _ i _ => n2 - (intOf i).toNat)
      case atStart => exact ⟨0, by omega, rfl, fun j z hj => absurd hj (by omega), L1.out, Below.refl _ _⟩
      case round =>
        clear LW HPP
        obtain ⟨k, hk, rfl, hP, hL, hB1⟩ := hrel
        have LW := Lib.hid hL
        have HPP := Lib.hid hP
        have HB1 := Lib.hid hB1
        clear hL hP hB1
        by_cases hlt : k < n2
        · obtain ⟨b, o, y', rfl, hbB, hx, a0, a1⟩ := (HV.out.below HB1.out).at_ hlt
          obtain ⟨hst, htx, hall⟩ := rex_parts HRX.out
          have hy := List.getElem?_eq_getElem (show k < S.length by omega)
          obtain ⟨y, hyq⟩ : ∃ y, S[k]'(by omega) = y := ⟨_, rfl⟩
          rw [hyq] at hy
          have hyo : y' = ovM C y := by rw [HOV.out, List.getElem?_map, hy] at hx; simpa using hx.symm
          have hkey := wkey_of htx hy
          obtain ⟨hver, hhas⟩ := ver_lat hst hkey.1 hkey.2
          rw [← hyo] at hver hhas
          have h6 := val.st_six hst
          rw [H3.out.1] at h6
          have s1 : 0 ≤ y'.a := by rw [hyo]; exact hkey.1
          have s2 : y'.a ≤ 5 := by rw [hyo]; exact hkey.2
          have s3 : y'.a < (N : Int) := by omega
          have HX := Lib.hid hy
          have HH := Lib.hid hhas
          have HYO := Lib.hid hyo
          have HVR := Lib.hid hver
          clear h6 hst htx hall hx hhas hyq hy hyo hkey hver
          go_wp2_with fail
          have hb := new1 wr (.cells #[.int .i64 y'.a, .int .i64 y'.b] 38)
          have mb := boxed wr y' 38
          have hsz := LW.out.size
          have LX := Lib.hid (LW.out.call hb)
          have HBX : Hid (Below W1.heap.size W1 (wr.alloc (.cells #[.int .i64 y'.a, .int .i64 y'.b] 38))) := Lib.hid (HB1.out.trans (hb.mono HB1.out.size))
          have hs1 : wr.heap.size < (wr.alloc (.cells #[.int .i64 y'.a, .int .i64 y'.b] 38)).heap.size := by simp
          clear hb a0 a1
          generalize wr.alloc _ = W2 at LX mb hs1 HBX ⊢
          have MB := Lib.hid mb
          clear mb
          refine (impl_vof y' w.heap.size (by have := LX.out.size; omega) LX.out.ls.st s1 s3 (H3.out.below (below_le LX.out.ls.bel hB)) (by have := LX.out.size; omega)).mono ?_
          rintro e W3 ⟨⟨hn, rfl⟩ | ⟨hn, b4, o4, rfl, hbB4, hA⟩, hb1⟩
          · exact absurd hn (by rw [HH.out]; exact fun h => by cases h)
          · have L3 := Lib.hid (LX.out.call hb1)
            have HB3 := Lib.hid (HBX.out.trans (hb1.mono HBX.out.size))
            obtain ⟨m0, m1⟩ := atFlat (MB.out.keep hs1 hb1)
            rw [HVR.out] at hA
            obtain ⟨e0, e1, e2, e3, e4⟩ := hA
            obtain ⟨u, hu⟩ : ∃ u, (latOf C y).d = u := ⟨_, rfl⟩
            rw [hu] at e3
            have HU := Lib.hid hu
            clear hb1 e0 e1 e2 e4 hn hu
            by_cases huv : u = v
            · subst huv
              have t : (u == u) = true := by simp
              obtain ⟨z0, z1⟩ := L3.out.rb.cells
              have f0 := L3.out.rb.fz 0
              have f1 := L3.out.rb.fz 1
              go_wp2_with fail
              have hp := L3.out.put y'
              clear z0 z1 f0 f1
              generalize World.setCell (World.setCell _ _ _) _ _ = W9 at hp ⊢
              obtain ⟨e0, e1⟩ := hp.rb.cells
              exact bodyPost_ret (v := .agg #[.int .i64 y'.a, .int .i64 y'.b]) (by simp [results, Tryz.results59, go_sem, e0, e1]) rfl ⟨ret_m (by rw [HYO.out]; exact (lm_over hln HX.out HU.out HNR.out HPP.out).symm), hp.ls.bel⟩
            · have t : (u == v) = false := by simpa using huv
              have HUV := Lib.hid huv
              clear huv
              go_wp2_with fail
              go_roundw
              case rel => exact ⟨k + 1, by omega, by go_num, ne_step (f := fun z => (latOf C z).d) HPP.out HX.out (by rw [HU.out]; exact HUV.out), L3.out, HB3.out⟩
              case measure => simp [intOf]; omega
        · obtain rfl : n2 = k := by omega
          obtain ⟨z0, z1⟩ := LW.out.rb.cells
          have f0 := LW.out.rb.fz 0
          have f1 := LW.out.rb.fz 1
          go_wp2_with fail
          have hp := LW.out.put (⟨0, 0⟩ : E2)
          clear z0 z1 f0 f1
          generalize World.setCell (World.setCell _ _ _) _ _ = W9 at hp ⊢
          obtain ⟨e0, e1⟩ := hp.rb.cells
          exact bodyPost_ret (v := .agg #[.int .i64 (⟨0, 0⟩ : E2).a, .int .i64 (⟨0, 0⟩ : E2).b]) (by simp [results, Tryz.results59, go_sem, e0, e1]) rfl ⟨ret_z (lm_none hln hln2 HNR.out HPP.out).symm, hp.ls.bel⟩
end Go.Proofs.YtbnkkgjkhpbgiaaGreatDoor.lm
/- The model's l8Low: the mark that sets the low end; nothing that was there is written. -/
namespace Go.Proofs.YtbnkkgjkhpbgiaaGreatDoor.lo
open Go.ChangeShapes Go.WideShapes Go.ChangeAt Go.RowKit
open Go.Proofs.YtbnkkgjkhpbgiaaGreatDoor.el2 Go.Proofs.YtbnkkgjkhpbgiaaGreatDoor.tx Go.Proofs.YtbnkkgjkhpbgiaaGreatDoor.seq Go.Proofs.YtbnkkgjkhpbgiaaGreatDoor.tv Go.Proofs.YtbnkkgjkhpbgiaaGreatDoor.tf Go.Proofs.YtbnkkgjkhpbgiaaGreatDoor.rx Go.Proofs.YtbnkkgjkhpbgiaaGreatDoor.ri Go.Proofs.YtbnkkgjkhpbgiaaGreatDoor.rl Go.Proofs.YtbnkkgjkhpbgiaaGreatDoor.ov Go.Proofs.YtbnkkgjkhpbgiaaGreatDoor.bx Go.Proofs.YtbnkkgjkhpbgiaaGreatDoor.mx Go.Proofs.YtbnkkgjkhpbgiaaGreatDoor.em Go.Proofs.YtbnkkgjkhpbgiaaGreatDoor.ep
open Go.Proofs.YtbnkkgjkhpbgiaaGreatDoor.vers (new2)
open Go.Proofs.YtbnkkgjkhpbgiaaGreatDoor.sl (Ver)
open Go.Proofs.YtbnkkgjkhpbgiaaGreatDoor.st (Rs)
open Go.Proofs.YtbnkkgjkhpbgiaaGreatDoor.val (stB)
set_option linter.unusedVariables false
set_option linter.unusedSimpArgs false
/-- the boxes of a store, of a transaction, of the result, of the best mark so far -/
structure LN (w : World) (sv : Value) (x : Hd) (u1 u2 : Value) (m : E2) (W : World) : Prop where
  lm : LM w sv x u1 u2 ⟨0, 0⟩ W
  size : w.heap.size + 4 ≤ W.heap.size
  bb : Mx W (w.heap.size + 3) m
section
variable {w W W' : World} {x : Hd} {u1 u2 sv : Value} {m m' : E2}
theorem LN.keep (h : LN w sv x u1 u2 m W) (hb : Below (w.heap.size + 4) W W') : LN w sv x u1 u2 m W' :=
  ⟨h.lm.keep (hb.mono (by omega)), Nat.le_trans h.size hb.size, h.bb.keep hb (by omega)⟩
theorem LN.call (h : LN w sv x u1 u2 m W) (hb : Below W.heap.size W W') : LN w sv x u1 u2 m W' := h.keep (below_le hb h.size)
theorem LN.put (h : LN w sv x u1 u2 m W) (m' : E2) : LN w sv x u1 u2 m' (World.setCell (World.setCell W ⟨w.heap.size + 3, 0, none⟩ (.int .i64 m'.a)) ⟨w.heap.size + 3, 1, none⟩ (.int .i64 m'.b)) :=
  have ho := off2 W (w.heap.size + 3) (.int .i64 m'.a) (.int .i64 m'.b)
  ⟨h.lm.keep (ho.below (Nat.le_refl _)), by rw [ho.size]; exact h.size, h.bb.put m'⟩
end
theorem LN.mk4 (w : World) (x : Hd) (A A2 D : Option Addr) (n c n2 c2 N cN : Nat) : LN w (.slice D N cN) x (.slice A n c) (.slice A2 n2 c2) ⟨0, 0⟩ ((((w.alloc (.cells #[.slice D N cN] 26)).alloc (.cells #[.int .i64 x.i, .int .i64 x.s, .int .i64 x.t, .int .i64 x.b, .int .i64 x.l, .int .i64 x.h, .int .i64 x.c, .slice A n c, .slice A2 n2 c2] 30)).alloc (.cells #[.int .i64 0, .int .i64 0] 38)).alloc (.cells #[.int .i64 0, .int .i64 0] 38)) where
  lm := (LM.mk3 w x A A2 D n c n2 c2 N cN).call (new1 _ _)
  size := by simp
  bb := by
    have h := Mx.zero (((w.alloc (.cells #[.slice D N cN] 26)).alloc (.cells #[.int .i64 x.i, .int .i64 x.s, .int .i64 x.t, .int .i64 x.b, .int .i64 x.l, .int .i64 x.h, .int .i64 x.c, .slice A n c, .slice A2 n2 c2] 30)).alloc (.cells #[.int .i64 0, .int .i64 0] 38))
    rw [show (((w.alloc (.cells #[.slice D N cN] 26)).alloc (.cells #[.int .i64 x.i, .int .i64 x.s, .int .i64 x.t, .int .i64 x.b, .int .i64 x.l, .int .i64 x.h, .int .i64 x.c, .slice A n c, .slice A2 n2 c2] 30)).alloc (.cells #[.int .i64 0, .int .i64 0] 38)).heap.size = w.heap.size + 3 by simp] at h
    exact h
/-- how far the search has come -/
noncomputable def upR (R : List E2) (k : Nat) : Int × E2 := ((candR R).take k).foldl up (-1, ⟨0, 0⟩)
noncomputable def upS (C : List (List Ver)) (R S : List E2) (k : Nat) : Int × E2 := ((candS C S).take k).foldl up ((candR R).foldl up (-1, ⟨0, 0⟩))
section
variable {C : List (List Ver)} {R S : List E2} {k : Nat} {y : E2}
theorem upR_step (h : R[k]? = some y) : upR R (k + 1) = up (upR R k) (y, y.b) := by
  unfold upR
  rw [List.take_add_one, candR_at h]
  simp [List.foldl_append]
theorem upS_step (h : S[k]? = some y) : upS C R S (k + 1) = up (upS C R S k) (ovM C y, (latOf C y).d) := by
  unfold upS
  rw [List.take_add_one, candS_at h]
  simp [List.foldl_append]
theorem upR_all {n : Nat} (h : R.length = n) : upR R n = upS C R S 0 := by
  unfold upR upS
  rw [List.take_of_length_le (by rw [candR_len]; omega)]
  rfl
theorem upS_all {n : Nat} (h : S.length = n) : upS C R S n = (cand C R S).foldl up (-1, ⟨0, 0⟩) := by
  unfold upS cand
  rw [List.take_of_length_le (by rw [candS_len]; omega), List.foldl_append]
theorem up_hit {s : Int × E2} {p : E2 × Int} (h : s.1 < p.2) : up s p = (p.2, p.1) := if_pos h
theorem up_miss {s : Int × E2} {p : E2 × Int} (h : ¬ s.1 < p.2) : up s p = s := if_neg h
end
/-- a box of a version -/
def Vx (w : World) (b : Nat) (x : Ver) : Prop := ∃ f, w.rowIs b 72 5 f ∧ f 0 = .int .i64 x.a ∧ f 1 = .int .i64 x.b ∧ f 2 = .int .i64 x.c ∧ f 3 = .int .i64 x.d ∧ f 4 = .int .i64 x.e
section
variable {w w' : World} {b : Nat} {x y : Ver}
theorem Vx.cells (h : Vx w b x) : w.cell? ⟨b, 0, none⟩ = some (.int .i64 x.a) ∧ w.cell? ⟨b, 1, none⟩ = some (.int .i64 x.b) ∧ w.cell? ⟨b, 2, none⟩ = some (.int .i64 x.c) ∧ w.cell? ⟨b, 3, none⟩ = some (.int .i64 x.d) ∧ w.cell? ⟨b, 4, none⟩ = some (.int .i64 x.e) := by
  obtain ⟨f, hf, h0, h1, h2, h3, h4⟩ := h
  exact ⟨(hf.cell (show 0 < 5 by decide)).trans (by rw [h0]), (hf.cell (show 1 < 5 by decide)).trans (by rw [h1]), (hf.cell (show 2 < 5 by decide)).trans (by rw [h2]), (hf.cell (show 3 < 5 by decide)).trans (by rw [h3]), (hf.cell (show 4 < 5 by decide)).trans (by rw [h4])⟩
theorem Vx.fz (h : Vx w b x) (i : Nat) : w.frozen? ⟨b, i, none⟩ = false := by obtain ⟨f, hf, _⟩ := h; exact hf.frozen i
theorem Vx.lt (h : Vx w b x) : b < w.heap.size := by obtain ⟨f, hf, _⟩ := h; exact hf.lt
theorem Vx.of_block (h : Vx w b x) (hk : w'.heap[b]? = w.heap[b]?) : Vx w' b x := by obtain ⟨f, hf, hr⟩ := h; exact ⟨f, hf.of_block hk, hr⟩
theorem Vx.new (w : World) (x : Ver) : Vx (w.alloc (.cells #[.int .i64 x.a, .int .i64 x.b, .int .i64 x.c, .int .i64 x.d, .int .i64 x.e] 72)) w.heap.size x :=
  ⟨fun i => if i = 0 then .int .i64 x.a else if i = 1 then .int .i64 x.b else if i = 2 then .int .i64 x.c else if i = 3 then .int .i64 x.d else .int .i64 x.e, World.rowIs_alloc w #[.int .i64 x.a, .int .i64 x.b, .int .i64 x.c, .int .i64 x.d, .int .i64 x.e] 72 _ (fun i hi => by
    have : i = 0 ∨ i = 1 ∨ i = 2 ∨ i = 3 ∨ i = 4 := by simp at hi; omega
    rcases this with rfl | rfl | rfl | rfl | rfl <;> rfl), rfl, rfl, rfl, rfl, rfl⟩
theorem Vx.zero (w : World) : Vx (w.alloc (.cells #[.int .i64 0, .int .i64 0, .int .i64 0, .int .i64 0, .int .i64 0] 72)) w.heap.size ⟨0, 0, 0, 0, 0⟩ := Vx.new w ⟨0, 0, 0, 0, 0⟩
theorem Vx.put (h : Vx w b y) (x : Ver) : Vx (World.setCell (World.setCell (World.setCell (World.setCell (World.setCell w ⟨b, 0, none⟩ (.int .i64 x.a)) ⟨b, 1, none⟩ (.int .i64 x.b)) ⟨b, 2, none⟩ (.int .i64 x.c)) ⟨b, 3, none⟩ (.int .i64 x.d)) ⟨b, 4, none⟩ (.int .i64 x.e)) b x := by
  obtain ⟨f, hf, _⟩ := h
  exact ⟨_, ((((hf.set 0 (.int .i64 x.a)).set 1 (.int .i64 x.b)).set 2 (.int .i64 x.c)).set 3 (.int .i64 x.d)).set 4 (.int .i64 x.e), rfl, rfl, rfl, rfl, rfl⟩
theorem off5 (V : World) (bb : Nat) (v0 v1 v2 v3 v4 : Value) : Off bb V (World.setCell (World.setCell (World.setCell (World.setCell (World.setCell V ⟨bb, 0, none⟩ v0) ⟨bb, 1, none⟩ v1) ⟨bb, 2, none⟩ v2) ⟨bb, 3, none⟩ v3) ⟨bb, 4, none⟩ v4) :=
  (((((Off.refl bb V).setCell (p := ⟨bb, 0, none⟩) rfl _).setCell (p := ⟨bb, 1, none⟩) rfl _).setCell (p := ⟨bb, 2, none⟩) rfl _).setCell (p := ⟨bb, 3, none⟩) rfl _).setCell (p := ⟨bb, 4, none⟩) rfl _
end
theorem cell5 {V : World} {bb : Nat} {v0 v1 v2 v3 v4 : Value} {p : Addr} (h : p.block ≠ bb) : World.cell? (World.setCell (World.setCell (World.setCell (World.setCell (World.setCell V ⟨bb, 0, none⟩ v0) ⟨bb, 1, none⟩ v1) ⟨bb, 2, none⟩ v2) ⟨bb, 3, none⟩ v3) ⟨bb, 4, none⟩ v4) p = V.cell? p := World.cell?_of_block (a := p) ((off5 V bb v0 v1 v2 v3 v4).block _ h)
/-- the blocks from s on that were there in V are as they were -/
structure KB (s : Nat) (V W : World) : Prop where
  size : V.heap.size ≤ W.heap.size
  block : ∀ q, s ≤ q → q < V.heap.size → W.heap[q]? = V.heap[q]?
section
variable {s q : Nat} {V W W' : World}
theorem KB.refl (s : Nat) (V : World) : KB s V V := ⟨Nat.le_refl _, fun _ _ _ => rfl⟩
theorem KB.call (h : KB s V W) (hb : Below W.heap.size W W') : KB s V W' := ⟨Nat.le_trans h.size hb.size, fun q h1 h2 => (hb.block q (Nat.lt_of_lt_of_le h2 h.size)).trans (h.block q h1 h2)⟩
theorem KB.off (h : KB s V W) (ho : Off q W W') (hq : q < s) : KB s V W' := ⟨by rw [ho.size]; exact h.size, fun p h1 h2 => (ho.block p (by omega)).trans (h.block p h1 h2)⟩
theorem KB.cell (h : KB s V W) {p : Addr} {v : Value} (h1 : s ≤ p.block) (h2 : p.block < V.heap.size) (hc : V.cell? p = some v) : W.cell? p = some v := (World.cell?_of_block (w := V) (a := p) (h.block p.block h1 h2)).trans hc
end
theorem val_i {a b : Int} (h : a = b) : Value.int .i64 a = .int .i64 b := by rw [h]
set_option maxRecDepth 100000 in
set_option maxHeartbeats 6400000 in
theorem spec_lo {w : World} {B n c n2 c2 N cN : Nat} {A A2 D : Option Addr} {R S : List E2} {C : List (List Ver)} (x : Hd) (hn : n ≤ 1048576) (hn2 : n2 ≤ 1048576) (hN : N ≤ 1048576) (h1 : Vs w B A n R) (h2 : Vs w B A2 n2 S) (h3 : Rs w B D N C) (hB : B ≤ w.heap.size) (hr : rexB C x R S = true) (hne : R ≠ []) :
    Calls Tryz.prog 37 #[.agg #[.slice D N cN], .agg #[.int .i64 x.i, .int .i64 x.s, .int .i64 x.t, .int .i64 x.b, .int .i64 x.l, .int .i64 x.h, .int .i64 x.c, .slice A n c, .slice A2 n2 c2]] w fun e w' => e = .returned (.agg #[.int .i64 (fstAt (cand C R S) (rlI C x R S)).a, .int .i64 (fstAt (cand C R S) (rlI C x R S)).b]) ∧ Below w.heap.size w w' := by
  have H1 := Lib.hid h1
  have H2 := Lib.hid h2
  have H3 := Lib.hid h3
  have hln := h1.1
  have hln2 := h2.1
  have HRX := Lib.hid hr
  have HEND := Lib.hid (low_mark (C := C) (S := S) (x := x) (rex_both hr) hne)
  clear h1 h2 h3 hr hne
  go_enter Tryz.func37, Tryz.ntmps37
  go_wp2_with fail
  have hL := LN.mk4 w x A A2 D n c n2 c2 N cN
  generalize ((((w.alloc _).alloc _).alloc _).alloc _) = W0 at hL ⊢
  have L0 := Lib.hid hL
  clear hL
  try go_wp2_with fail
  go_loopw [6, 7] (fun a i wr => ∃ k : Nat, k ≤ n ∧ i = .int .i64 k ∧ a = .int .i64 (upR R k).1 ∧ LN w (.slice D N cN) x (.slice A n c) (.slice A2 n2 c2) (upR R k).2 wr) (fun _ i _ => n - (intOf i).toNat)
  case atStart => exact ⟨0, by omega, rfl, rfl, L0.out⟩
  case round =>
    obtain ⟨k, hk, rfl, rfl, hL⟩ := hrel
    have LW := Lib.hid hL
    obtain ⟨t0, t1, t2, t3, t4, t5, t6, t7, t8⟩ := hL.lm.ls.tb
    clear hL t0 t1 t2 t3 t4 t5 t6 t8
    obtain ⟨z, hz⟩ : ∃ z, (upR R k).1 = z := ⟨_, rfl⟩
    rw [hz]
    have HZ := Lib.hid hz
    clear hz
    by_cases hlt : k < n
    · obtain ⟨b, o, y, rfl, hbB, hx, a0, a1⟩ := (H1.out.below (below_le LW.out.lm.ls.bel hB)).at_ hlt
      have HX := Lib.hid hx
      clear hx
      have hsz := LW.out.size
      have hbl : b < wr.heap.size := by omega
      by_cases hzy : z < y.b
      · have t : decide (z < y.b) = true := decide_eq_true hzy
        have HH : Hid (upR R (k + 1) = (y.b, y)) := Lib.hid (by rw [upR_step HX.out, up_hit (by rw [HZ.out]; exact hzy)])
        clear hzy
        obtain ⟨z0, z1⟩ := LW.out.bb.cells
        have f0 := LW.out.bb.fz 0
        have f1 := LW.out.bb.fz 1
        go_wp2_with fail
        have hp := LW.out.put y
        clear z0 z1 f0 f1 t7 a0 a1
        generalize World.setCell (World.setCell _ _ _) _ _ = W9 at hp ⊢
        go_roundw
        case rel => exact ⟨k + 1, by omega, by go_num, val_i (by rw [HH.out]), by rw [HH.out]; exact hp⟩
        case measure => simp [intOf]; omega
      · have t : decide (z < y.b) = false := decide_eq_false hzy
        have HH : Hid (upR R (k + 1) = upR R k) := Lib.hid (by rw [upR_step HX.out, up_miss (by rw [HZ.out]; exact hzy)])
        clear hzy
        go_wp2_with fail
        go_roundw
        case rel => exact ⟨k + 1, by omega, by go_num, val_i (by rw [HH.out]; exact HZ.out.symm), by rw [HH.out]; exact LW.out⟩
        case measure => simp [intOf]; omega
    · obtain rfl : n = k := by omega
      clear t7
      have HZ2 : Hid ((upS C R S 0).1 = z) := Lib.hid (by rw [← upR_all (C := C) (S := S) hln]; exact HZ.out)
      have c0 := LW.out.lm.ls.st
      obtain ⟨t0, t1, t2, t3, t4, t5, t6, t7, t8⟩ := LW.out.lm.ls.tb
      obtain ⟨l, hlq⟩ : ∃ l, ovL C x R S = l := ⟨_, rfl⟩
      have hov : l = S.map (ovM C) := by rw [← hlq]; exact if_pos (rex_both HRX.out)
      have hq : l.length = n2 := by rw [hov, List.length_map]; exact hln2
      have HLQ := Lib.hid hlq
      have HQ := Lib.hid hq
      have HOV := Lib.hid hov
      clear hlq hq hov
      go_wp2_with fail
      obtain ⟨s0, hs0⟩ : ∃ s, wr.heap.size = s := ⟨_, rfl⟩
      have hs4 : w.heap.size + 4 ≤ s0 := by rw [← hs0]; exact LW.out.size
      refine (spec_ov x (by omega) (by omega) (by omega) (H1.out.below (below_le LW.out.lm.ls.bel hB)) (H2.out.below (below_le LW.out.lm.ls.bel hB)) (H3.out.below (below_le LW.out.lm.ls.bel hB)) (by have := LW.out.size; omega)).mono ?_
      rintro e W1 ⟨A7, c7, he, ho, hb⟩
      rw [HLQ.out, HQ.out] at he ho
      subst he
      have L1 := Lib.hid (LW.out.call hb)
      have L1' : Hid (LN w (.slice D N cN) x (.slice A n c) (.slice A2 n2 c2) (upS C R S 0).2 W1) := Lib.hid (by rw [← upR_all (C := C) (S := S) hln]; exact L1.out)
      obtain ⟨A8, c8, hv8, hvs⟩ := own_vs ho HQ.out
      obtain ⟨rfl, -, rfl⟩ : A8 = A7 ∧ True ∧ c8 = c7 := by injection hv8 with e1 e2 e3; exact ⟨e1.symm, trivial, e3.symm⟩
      have HV := Lib.hid (show Vs W1 W1.heap.size A8 n2 l from hvs.1)
      have HS0 : Hid (∀ q o, A8 = some ⟨q, o, none⟩ → s0 ≤ q) := Lib.hid (by rw [← hs0]; exact hvs.2)
      clear hb hs0 ho hv8 hvs c0 t0 t1 t2 t3 t4 t5 t6 t7 t8 L1
      go_wp2_with fail
      go_loopw [6, 9] (fun a i wr => ∃ k : Nat, k ≤ n2 ∧ i = .int .i64 k ∧ a = .int .i64 (upS C R S k).1 ∧ LN w (.slice D N cN) x (.slice A n c) (.slice A2 n2 c2) (upS C R S k).2 wr ∧ KB s0 W1 wr) (fun _ i _ => n2 - (intOf i).toNat)
      case atStart => exact ⟨0, by omega, rfl, val_i HZ2.out.symm, L1'.out, KB.refl _ _⟩
      case round =>
        clear LW HZ HZ2 L1'
        obtain ⟨k, hk, rfl, rfl, hL, hB1⟩ := hrel
        have LW := Lib.hid hL
        have HB1 := Lib.hid hB1
        clear hL hB1
        obtain ⟨z, hz⟩ : ∃ z, (upS C R S k).1 = z := ⟨_, rfl⟩
        rw [hz]
        have HZ := Lib.hid hz
        clear hz
        by_cases hlt : k < n2
        · obtain ⟨b, o, y', rfl, hbB, hx, a0, a1⟩ := HV.out.at_ hlt
          have hs0b := HS0.out b o rfl
          have a0 := HB1.out.cell (p := ⟨b, o + k * 2, none⟩) hs0b hbB a0
          have a1 := HB1.out.cell (p := ⟨b, o + k * 2 + 1, none⟩) hs0b hbB a1
          obtain ⟨hst, htx, hall⟩ := rex_parts HRX.out
          have hy := List.getElem?_eq_getElem (show k < S.length by omega)
          obtain ⟨y, hyq⟩ : ∃ y, S[k]'(by omega) = y := ⟨_, rfl⟩
          rw [hyq] at hy
          have hyo : y' = ovM C y := by rw [HOV.out, List.getElem?_map, hy] at hx; simpa using hx.symm
          have hkey := wkey_of htx hy
          have h6 := val.st_six hst
          rw [H3.out.1] at h6
          have hya : y'.a = y.a := by rw [hyo]; rfl
          have s1 : 0 ≤ y'.a := by omega
          have s2 : y'.a ≤ 5 := by omega
          have s3 : y'.a < (N : Int) := by omega
          have s4 : y'.a.toNat < N := by omega
          have HX := Lib.hid hy
          have HYO := Lib.hid hyo
          obtain ⟨b2, o2, l2, A9, n9, c9, rfl, hb2, hl, d0, hn9, hv⟩ := (H3.out.below (below_le LW.out.lm.ls.bel hB)).at_ s4
          have HV9 := Lib.hid hv
          obtain ⟨u, hu⟩ : ∃ u, latOf C y = u := ⟨_, rfl⟩
          have HU := Lib.hid hu
          have HLV : Hid (Go.Proofs.YtbnkkgjkhpbgiaaGreatDoor.find.lastV l2 = u) := Lib.hid (by rw [← hu, ← lat_at (m := y) (by rw [← hya]; exact hl)])
          have c0 := LW.out.lm.ls.st
          have hsz := LW.out.size
          have hs1 := HB1.out.size
          have hlb : b < wr.heap.size := by omega
          have hlb2 : b2 < wr.heap.size := by omega
          clear hst htx hall hy hyq hyo hkey h6 hx hl hv hu hya
          have hbk0 : Below wr.heap.size wr wr.drew := (Below.refl _ _).drew
          have hbka : Below wr.heap.size wr (wr.alloc (.cells #[.int .i64 0, .int .i64 0, .int .i64 0, .int .i64 0, .int .i64 0] 72)).drew := ((Below.refl _ _).alloc (Nat.le_refl _) _).drew
          have zbx := Vx.zero wr
          go_wp2_with fail
          go_region_held3 (fun w' => w'.cell? ⟨w.heap.size, 0, none⟩ = some (.slice (some ⟨b2, o2, none⟩) N cN) ∧ w'.cell? ⟨b, o + k * 2, none⟩ = some (.int .i64 y'.a) ∧ w'.cell? ⟨b2, o2 + y'.a.toNat, none⟩ = some (.slice A9 n9 c9)) (first | ((repeat' apply And.intro) <;> first | with_reducible exact (cell5 (by simp only; omega)).trans (by assumption)) | go_keep) (first | (go_at_call 58; (with_reducible refine (Go.Proofs.YtbnkkgjkhpbgiaaGreatDoor.find.latest_spec HLV.out hn9 ((HV9.out.below (below_le hbk0 (Nat.le_trans hB LW.out.lm.ls.bel.size))).more (show B ≤ wr.heap.size by omega)) (Nat.le_refl _)).mono ?_); rintro e W3 ⟨he, hb'⟩; subst he; have hbk1 := hbk0.trans (hb'.mono hbk0.size); have e0 := (hbk1.cell (p := ⟨w.heap.size, 0, none⟩) (by simp only; omega)).trans c0; have e1 := (hbk1.cell (p := ⟨b, o + k * 2, none⟩) hlb).trans a0; have e2 := (hbk1.cell (p := ⟨b2, o2 + y'.a.toNat, none⟩) hlb2).trans d0) | (go_at_call 58; (with_reducible refine (Go.Proofs.YtbnkkgjkhpbgiaaGreatDoor.find.latest_spec HLV.out hn9 ((HV9.out.below (below_le hbka (Nat.le_trans hB LW.out.lm.ls.bel.size))).more (show B ≤ (wr.alloc (.cells #[.int .i64 0, .int .i64 0, .int .i64 0, .int .i64 0, .int .i64 0] 72)).heap.size by simp; omega)) (Nat.le_refl _)).mono ?_); rintro e W3 ⟨he, hb'⟩; subst he; have hbk1 := hbka.trans (hb'.mono hbka.size); have zb3 := zbx.of_block (hb'.block wr.heap.size (by simp)); obtain ⟨z0, z1, z2, z3, z4⟩ := zb3.cells; have f0 := zb3.fz 0; have f1 := zb3.fz 1; have f2 := zb3.fz 2; have f3 := zb3.fz 3; have f4 := zb3.fz 4; have e0 := (hbk1.cell (p := ⟨w.heap.size, 0, none⟩) (by simp only; omega)).trans c0; have e1 := (hbk1.cell (p := ⟨b, o + k * 2, none⟩) hlb).trans a0; have e2 := (hbk1.cell (p := ⟨b2, o2 + y'.a.toNat, none⟩) hlb2).trans d0))
          · have vx := Vx.new W3 u
            have hbx := hbk1.alloc hbk1.size (.cells #[.int .i64 u.a, .int .i64 u.b, .int .i64 u.c, .int .i64 u.d, .int .i64 u.e] 72)
            have hsv : W3.heap.size < (W3.alloc (.cells #[.int .i64 u.a, .int .i64 u.b, .int .i64 u.c, .int .i64 u.d, .int .i64 u.e] 72)).heap.size := by simp
            have hs3 := hbk1.size
            clear hbk1 e0 e1 e2 c0 d0 zbx hbk0 hbka hb'

            generalize hvb : W3.heap.size = vb at vx hsv hs3 ⊢
            generalize W3.alloc _ = W9 at vx hbx hsv ⊢
            obtain ⟨-, -, -, v3, -⟩ := vx.cells
            have L9 := Lib.hid (LW.out.call hbx)
            have HB9 := Lib.hid (HB1.out.call hbx)
            have a0 := (hbx.cell (p := ⟨b, o + k * 2, none⟩) hlb).trans a0
            have a1 := (hbx.cell (p := ⟨b, o + k * 2 + 1, none⟩) hlb).trans a1
            clear hbx vx hvb
            by_cases hzu : z < u.d
            · have t : decide (z < u.d) = true := decide_eq_true hzu
              have HH : Hid (upS C R S (k + 1) = (u.d, y')) := Lib.hid (by rw [upS_step HX.out, HU.out, up_hit (by rw [HZ.out]; exact hzu), HYO.out])
              clear hzu
              obtain ⟨z0, z1⟩ := L9.out.bb.cells
              have f0 := L9.out.bb.fz 0
              have f1 := L9.out.bb.fz 1
              go_wp2_with fail
              have hp := L9.out.put y'
              have hpb : KB s0 W1 (World.setCell (World.setCell W9 ⟨w.heap.size + 3, 0, none⟩ (.int .i64 y'.a)) ⟨w.heap.size + 3, 1, none⟩ (.int .i64 y'.b)) := HB9.out.off (off2 W9 (w.heap.size + 3) (.int .i64 y'.a) (.int .i64 y'.b)) (by omega)
              clear z0 z1 f0 f1 a0 a1 v3
              generalize World.setCell (World.setCell _ _ _) _ _ = W10 at hp hpb ⊢
              go_roundw
              case rel => exact ⟨k + 1, by omega, by go_num, val_i (by rw [HH.out]), by rw [HH.out]; exact hp, hpb⟩
              case measure => simp [intOf]; omega
            · have t : decide (z < u.d) = false := decide_eq_false hzu
              have HH : Hid (upS C R S (k + 1) = upS C R S k) := Lib.hid (by rw [upS_step HX.out, HU.out, up_miss (by rw [HZ.out]; exact hzu)])
              clear hzu
              go_wp2_with fail
              go_roundw
              case rel => exact ⟨k + 1, by omega, by go_num, val_i (by rw [HH.out]; exact HZ.out.symm), by rw [HH.out]; exact L9.out, HB9.out⟩
              case measure => simp [intOf]; omega
          · have vx := zb3.put u
            have hbx := hbk1.trans ((off5 W3 wr.heap.size (.int .i64 u.a) (.int .i64 u.b) (.int .i64 u.c) (.int .i64 u.d) (.int .i64 u.e)).below (Nat.le_refl _))
            clear hbk1 e0 e1 e2 c0 d0 zbx hbk0 hbka zb3 z0 z1 z2 z3 z4 f0 f1 f2 f3 f4 hb'

            have hvb : True := trivial
            generalize World.setCell (World.setCell (World.setCell (World.setCell (World.setCell _ _ _) _ _) _ _) _ _) _ _ = W9 at vx hbx ⊢
            obtain ⟨-, -, -, v3, -⟩ := vx.cells
            have L9 := Lib.hid (LW.out.call hbx)
            have HB9 := Lib.hid (HB1.out.call hbx)
            have a0 := (hbx.cell (p := ⟨b, o + k * 2, none⟩) hlb).trans a0
            have a1 := (hbx.cell (p := ⟨b, o + k * 2 + 1, none⟩) hlb).trans a1
            clear hbx vx hvb
            by_cases hzu : z < u.d
            · have t : decide (z < u.d) = true := decide_eq_true hzu
              have HH : Hid (upS C R S (k + 1) = (u.d, y')) := Lib.hid (by rw [upS_step HX.out, HU.out, up_hit (by rw [HZ.out]; exact hzu), HYO.out])
              clear hzu
              obtain ⟨z0, z1⟩ := L9.out.bb.cells
              have f0 := L9.out.bb.fz 0
              have f1 := L9.out.bb.fz 1
              go_wp2_with fail
              have hp := L9.out.put y'
              have hpb : KB s0 W1 (World.setCell (World.setCell W9 ⟨w.heap.size + 3, 0, none⟩ (.int .i64 y'.a)) ⟨w.heap.size + 3, 1, none⟩ (.int .i64 y'.b)) := HB9.out.off (off2 W9 (w.heap.size + 3) (.int .i64 y'.a) (.int .i64 y'.b)) (by omega)
              clear z0 z1 f0 f1 a0 a1 v3
              generalize World.setCell (World.setCell _ _ _) _ _ = W10 at hp hpb ⊢
              go_roundw
              case rel => exact ⟨k + 1, by omega, by go_num, val_i (by rw [HH.out]), by rw [HH.out]; exact hp, hpb⟩
              case measure => simp [intOf]; omega
            · have t : decide (z < u.d) = false := decide_eq_false hzu
              have HH : Hid (upS C R S (k + 1) = upS C R S k) := Lib.hid (by rw [upS_step HX.out, HU.out, up_miss (by rw [HZ.out]; exact hzu)])
              clear hzu
              go_wp2_with fail
              go_roundw
              case rel => exact ⟨k + 1, by omega, by go_num, val_i (by rw [HH.out]; exact HZ.out.symm), by rw [HH.out]; exact L9.out, HB9.out⟩
              case measure => simp [intOf]; omega
        · obtain rfl : n2 = k := by omega
          obtain ⟨g0, g1⟩ := LW.out.bb.cells
          obtain ⟨z0, z1⟩ := LW.out.lm.rb.cells
          have f0 := LW.out.lm.rb.fz 0
          have f1 := LW.out.lm.rb.fz 1
          obtain ⟨m, hm⟩ : ∃ m, (upS C R S n2).2 = m := ⟨_, rfl⟩
          rw [hm] at g0 g1
          have HM := Lib.hid hm
          clear hm
          go_wp2_with fail
          have hp := LW.out.lm.put m
          clear z0 z1 f0 f1 g0 g1
          generalize World.setCell (World.setCell _ _ _) _ _ = W9 at hp ⊢
          obtain ⟨e0, e1⟩ := hp.rb.cells
          exact bodyPost_ret (v := .agg #[.int .i64 m.a, .int .i64 m.b]) (by simp [results, Tryz.results37, go_sem, e0, e1]) rfl ⟨ret_m (by rw [← HM.out, upS_all hln2]; exact HEND.out), hp.ls.bel⟩
end Go.Proofs.YtbnkkgjkhpbgiaaGreatDoor.lo
/- Boxes of a store, of a transaction and of two marks. -/
namespace Go.Proofs.YtbnkkgjkhpbgiaaGreatDoor.lq
open Go.ChangeShapes Go.WideShapes Go.ChangeAt Go.RowKit
open Go.Proofs.YtbnkkgjkhpbgiaaGreatDoor.el2 Go.Proofs.YtbnkkgjkhpbgiaaGreatDoor.tx Go.Proofs.YtbnkkgjkhpbgiaaGreatDoor.seq Go.Proofs.YtbnkkgjkhpbgiaaGreatDoor.tv Go.Proofs.YtbnkkgjkhpbgiaaGreatDoor.tf Go.Proofs.YtbnkkgjkhpbgiaaGreatDoor.rx Go.Proofs.YtbnkkgjkhpbgiaaGreatDoor.ri Go.Proofs.YtbnkkgjkhpbgiaaGreatDoor.rl Go.Proofs.YtbnkkgjkhpbgiaaGreatDoor.ov Go.Proofs.YtbnkkgjkhpbgiaaGreatDoor.bx Go.Proofs.YtbnkkgjkhpbgiaaGreatDoor.mx Go.Proofs.YtbnkkgjkhpbgiaaGreatDoor.em Go.Proofs.YtbnkkgjkhpbgiaaGreatDoor.ep
open Go.Proofs.YtbnkkgjkhpbgiaaGreatDoor.vers (new2)
open Go.Proofs.YtbnkkgjkhpbgiaaGreatDoor.sl (Ver)
open Go.Proofs.YtbnkkgjkhpbgiaaGreatDoor.st (Rs)
open Go.Proofs.YtbnkkgjkhpbgiaaGreatDoor.val (stB)
set_option linter.unusedVariables false
set_option linter.unusedSimpArgs false
structure LQ (w : World) (sv : Value) (x : Hd) (u1 u2 : Value) (m1 m2 : E2) (W : World) : Prop where
  ls : LS w sv x u1 u2 W
  size : w.heap.size + 4 ≤ W.heap.size
  r1 : Mx W (w.heap.size + 2) m1
  r2 : Mx W (w.heap.size + 3) m2
theorem cell2 {V : World} {bb : Nat} {v0 v1 : Value} {p : Addr} (h : p.block ≠ bb) : World.cell? (World.setCell (World.setCell V ⟨bb, 0, none⟩ v0) ⟨bb, 1, none⟩ v1) p = V.cell? p := World.cell?_of_block (a := p) ((off2 V bb v0 v1).block _ h)
section
variable {w W W' : World} {x : Hd} {u1 u2 sv : Value} {m1 m2 : E2}
theorem LQ.keep (h : LQ w sv x u1 u2 m1 m2 W) (hb : Below (w.heap.size + 4) W W') : LQ w sv x u1 u2 m1 m2 W' :=
  ⟨LS.keep h.ls (hb.mono (by omega)), Nat.le_trans h.size hb.size, h.r1.keep hb (by omega), h.r2.keep hb (by omega)⟩
theorem LQ.call (h : LQ w sv x u1 u2 m1 m2 W) (hb : Below W.heap.size W W') : LQ w sv x u1 u2 m1 m2 W' := h.keep (below_le hb h.size)
theorem LQ.drewN (h : LQ w sv x u1 u2 m1 m2 W) (n : Nat) : LQ w sv x u1 u2 m1 m2 (W.drewN n) := ⟨h.ls.drewN n, h.size, h.r1, h.r2⟩
theorem LQ.put1 (h : LQ w sv x u1 u2 m1 m2 W) (m : E2) : LQ w sv x u1 u2 m m2 (World.setCell (World.setCell W ⟨w.heap.size + 2, 0, none⟩ (.int .i64 m.a)) ⟨w.heap.size + 2, 1, none⟩ (.int .i64 m.b)) :=
  have ho := off2 W (w.heap.size + 2) (.int .i64 m.a) (.int .i64 m.b)
  ⟨LS.keep h.ls (ho.below (Nat.le_refl _)), by rw [ho.size]; exact h.size, h.r1.put m, h.r2.of_block (ho.block _ (by omega))⟩
theorem LQ.put2 (h : LQ w sv x u1 u2 m1 m2 W) (m : E2) : LQ w sv x u1 u2 m1 m (World.setCell (World.setCell W ⟨w.heap.size + 3, 0, none⟩ (.int .i64 m.a)) ⟨w.heap.size + 3, 1, none⟩ (.int .i64 m.b)) :=
  have ho := off2 W (w.heap.size + 3) (.int .i64 m.a) (.int .i64 m.b)
  ⟨LS.keep h.ls (ho.below (by omega)), by rw [ho.size]; exact h.size, h.r1.of_block (ho.block _ (by omega)), h.r2.put m⟩
end
theorem LQ.mk4 (w : World) (x : Hd) (A A2 D : Option Addr) (n c n2 c2 N cN : Nat) : LQ w (.slice D N cN) x (.slice A n c) (.slice A2 n2 c2) ⟨0, 0⟩ ⟨0, 0⟩ ((((w.alloc (.cells #[.slice D N cN] 26)).alloc (.cells #[.int .i64 x.i, .int .i64 x.s, .int .i64 x.t, .int .i64 x.b, .int .i64 x.l, .int .i64 x.h, .int .i64 x.c, .slice A n c, .slice A2 n2 c2] 30)).alloc (.cells #[.int .i64 0, .int .i64 0] 38)).alloc (.cells #[.int .i64 0, .int .i64 0] 38)) where
  ls := (LM.mk3 w x A A2 D n c n2 c2 N cN).ls.call (new1 _ _)
  size := by simp
  r1 := (LM.mk3 w x A A2 D n c n2 c2 N cN).rb.keep (new1 _ _) (by simp)
  r2 := by
    have h := Mx.zero (((w.alloc (.cells #[.slice D N cN] 26)).alloc (.cells #[.int .i64 x.i, .int .i64 x.s, .int .i64 x.t, .int .i64 x.b, .int .i64 x.l, .int .i64 x.h, .int .i64 x.c, .slice A n c, .slice A2 n2 c2] 30)).alloc (.cells #[.int .i64 0, .int .i64 0] 38))
    rw [show (((w.alloc (.cells #[.slice D N cN] 26)).alloc (.cells #[.int .i64 x.i, .int .i64 x.s, .int .i64 x.t, .int .i64 x.b, .int .i64 x.l, .int .i64 x.h, .int .i64 x.c, .slice A n c, .slice A2 n2 c2] 30)).alloc (.cells #[.int .i64 0, .int .i64 0] 38)).heap.size = w.heap.size + 3 by simp] at h
    exact h
end Go.Proofs.YtbnkkgjkhpbgiaaGreatDoor.lq
/- ExcludingPair of the model: what it answers; nothing that was there is written. -/
namespace Go.Proofs.YtbnkkgjkhpbgiaaGreatDoor.xs
open Go.ChangeShapes Go.WideShapes Go.ChangeAt Go.RowKit
open Go.Proofs.YtbnkkgjkhpbgiaaGreatDoor.el2 Go.Proofs.YtbnkkgjkhpbgiaaGreatDoor.tx Go.Proofs.YtbnkkgjkhpbgiaaGreatDoor.seq Go.Proofs.YtbnkkgjkhpbgiaaGreatDoor.tv Go.Proofs.YtbnkkgjkhpbgiaaGreatDoor.tf Go.Proofs.YtbnkkgjkhpbgiaaGreatDoor.rx Go.Proofs.YtbnkkgjkhpbgiaaGreatDoor.ri Go.Proofs.YtbnkkgjkhpbgiaaGreatDoor.rl Go.Proofs.YtbnkkgjkhpbgiaaGreatDoor.ov Go.Proofs.YtbnkkgjkhpbgiaaGreatDoor.bx Go.Proofs.YtbnkkgjkhpbgiaaGreatDoor.mx Go.Proofs.YtbnkkgjkhpbgiaaGreatDoor.em Go.Proofs.YtbnkkgjkhpbgiaaGreatDoor.ep
open Go.Proofs.YtbnkkgjkhpbgiaaGreatDoor.vers (new2)
open Go.Proofs.YtbnkkgjkhpbgiaaGreatDoor.sl (Ver)
open Go.Proofs.YtbnkkgjkhpbgiaaGreatDoor.st (Rs)
open Go.Proofs.YtbnkkgjkhpbgiaaGreatDoor.val (stB)
set_option linter.unusedVariables false
set_option linter.unusedSimpArgs false
open Go.Proofs.YtbnkkgjkhpbgiaaGreatDoor.fw Go.Proofs.YtbnkkgjkhpbgiaaGreatDoor.lq
open Go.Proofs.YtbnkkgjkhpbgiaaGreatDoor.rh (rhI)
theorem ret_p {a a2 b b2 : E2} {p q : Bool} (h : a = a2) (h2 : b = b2) (h3 : p = q) : Ending.returned (.tuple #[.agg #[.int .i64 a.a, .int .i64 a.b], .agg #[.int .i64 b.a, .int .i64 b.b], .bool p]) = .returned (.tuple #[.agg #[.int .i64 a2.a, .int .i64 a2.b], .agg #[.int .i64 b2.a, .int .i64 b2.b], .bool q]) := by rw [h, h2, h3]
set_option maxRecDepth 100000 in
set_option maxHeartbeats 6400000 in
theorem spec_xp {w : World} {B n c n2 c2 N cN : Nat} {A A2 D : Option Addr} {R S : List E2} {C : List (List Ver)} (x : Hd) (z : Int) (hn : n ≤ 1048576) (hn2 : n2 ≤ 1048576) (hN : N ≤ 1048576) (h1 : Vs w B A n R) (h2 : Vs w B A2 n2 S) (h3 : Rs w B D N C) (hB : B ≤ w.heap.size) :
    Calls Tryz.prog 14 #[.agg #[.slice D N cN], .agg #[.int .i64 x.i, .int .i64 x.s, .int .i64 x.t, .int .i64 x.b, .int .i64 x.l, .int .i64 x.h, .int .i64 x.c, .slice A n c, .slice A2 n2 c2], .int .i64 z] w fun e w' => e = .returned (.tuple #[.agg #[.int .i64 (xpL C x R S z).a, .int .i64 (xpL C x R S z).b], .agg #[.int .i64 (xpH C x R S z).a, .int .i64 (xpH C x R S z).b], .bool (xpB C x R S z)]) ∧ Below w.heap.size w w' := by
  have H1 := Lib.hid h1
  have H2 := Lib.hid h2
  have H3 := Lib.hid h3
  have hln := h1.1
  clear h1 h2 h3
  obtain ⟨q1, hq1⟩ : ∃ q, rlI C x R S = q := ⟨_, rfl⟩
  obtain ⟨q2, hq2⟩ : ∃ q, rhI C x R S = q := ⟨_, rfl⟩
  have HQ1 := Lib.hid hq1
  have HQ2 := Lib.hid hq2
  clear hq1 hq2
  obtain ⟨m1, hm1⟩ : ∃ q, fstAt (cand C R S) (rlI C x R S) = q := ⟨_, rfl⟩
  have HM1 := Lib.hid hm1
  clear hm1
  obtain ⟨fa, ha⟩ : ∃ q, fwL C x R S z = q := ⟨_, rfl⟩
  obtain ⟨fb, hb0⟩ : ∃ q, fwH C x R S z = q := ⟨_, rfl⟩
  have HA := Lib.hid ha
  have HBB := Lib.hid hb0
  clear ha hb0
  go_enter Tryz.func14, Tryz.ntmps14
  go_wp2_with fail
  have hL := LQ.mk4 w x A A2 D n c n2 c2 N cN
  generalize ((((w.alloc _).alloc _).alloc _).alloc _) = W0 at hL ⊢
  have L0 := Lib.hid hL
  have c0 := hL.ls.st
  obtain ⟨t0, t1, t2, t3, t4, t5, t6, t7, t8⟩ := hL.ls.tb
  clear hL
  go_wp2_with fail
  refine (spec_fw x z (by omega) (by omega) (by omega) (H1.out.below (below_le L0.out.ls.bel hB)) (H2.out.below (below_le L0.out.ls.bel hB)) (H3.out.below (below_le L0.out.ls.bel hB)) (by have := L0.out.size; omega)).mono ?_
  rintro e W1 ⟨he, hb⟩
  rw [HA.out, HBB.out] at he
  have L1 := Lib.hid (L0.out.call hb)
  clear hb c0 t0 t1 t2 t3 t4 t5 t6 t7 t8
  obtain ⟨fq, hfq⟩ : ∃ q, fwB C x R S z = q := ⟨_, rfl⟩
  rw [hfq] at he
  subst he
  have HFQ := Lib.hid hfq
  clear hfq
  have c0 := L1.out.ls.st
  obtain ⟨t0, t1, t2, t3, t4, t5, t6, t7, t8⟩ := L1.out.ls.tb
  go_wp2_with fail
  refine (Go.Proofs.YtbnkkgjkhpbgiaaGreatDoor.rh.spec_rh x (by omega) (by omega) (by omega) (H1.out.below (below_le L1.out.ls.bel hB)) (H2.out.below (below_le L1.out.ls.bel hB)) (H3.out.below (below_le L1.out.ls.bel hB)) (by have := L1.out.size; omega)).mono ?_
  rintro e W2 ⟨he, hb⟩
  rw [HQ2.out] at he
  subst he
  have L2 := Lib.hid (L1.out.call hb)
  clear hb c0 t0 t1 t2 t3 t4 t5 t6 t7 t8
  cases fq
  case false =>
    have HX := Lib.hid (xp_no HFQ.out)
    obtain ⟨z0, z1⟩ := L2.out.r1.cells
    obtain ⟨y0, y1⟩ := L2.out.r2.cells
    have f0 := L2.out.r1.fz 0
    have f1 := L2.out.r1.fz 1
    have g0 := L2.out.r2.fz 0
    have g1 := L2.out.r2.fz 1
    go_wp2_with fail
    clear z0 z1 y0 y1 f0 f1 g0 g1
    generalize hW : World.setCell _ _ _ = W9
    have hp : LQ w (.slice D N cN) x (.slice A n c) (.slice A2 n2 c2) (⟨0, 0⟩ : E2) (⟨0, 0⟩ : E2) W9 := by first | (rw [← hW]; exact (L2.out.put1 (⟨0, 0⟩ : E2)).put2 (⟨0, 0⟩ : E2)) | (rw [← hW]; exact (L2.out.put2 (⟨0, 0⟩ : E2)).put1 (⟨0, 0⟩ : E2))
    obtain ⟨e0, e1⟩ := hp.r1.cells
    obtain ⟨e2, e3⟩ := hp.r2.cells
    exact bodyPost_ret (v := .tuple #[.agg #[.int .i64 ((⟨0, 0⟩ : E2)).a, .int .i64 ((⟨0, 0⟩ : E2)).b], .agg #[.int .i64 ((⟨0, 0⟩ : E2)).a, .int .i64 ((⟨0, 0⟩ : E2)).b], .bool false]) (by simp [results, Tryz.results14, go_sem, e0, e1, e2, e3]) rfl ⟨ret_p (xpL_no HX.out).symm (xpH_no HX.out).symm HX.out.symm, by first | exact hp.ls.bel | exact hp.ls.bel.drew⟩
  case true =>
    have HRX := Lib.hid (fw_parts HFQ.out).1
    have c0 := L2.out.ls.st
    obtain ⟨t0, t1, t2, t3, t4, t5, t6, t7, t8⟩ := L2.out.ls.tb
    go_wp2_with fail
    refine (spec_rl x (by omega) (by omega) (by omega) (H1.out.below (below_le L2.out.ls.bel hB)) (H2.out.below (below_le L2.out.ls.bel hB)) (H3.out.below (below_le L2.out.ls.bel hB)) (by have := L2.out.size; omega)).mono ?_
    rintro e W3 ⟨he, hb⟩
    rw [HQ1.out] at he
    subst he
    have L3 := Lib.hid (L2.out.call hb)
    clear hb c0 t0 t1 t2 t3 t4 t5 t6 t7 t8
    by_cases hlt : q1 < q2
    · have HX := Lib.hid (xp_lt (C := C) (x := x) (R := R) (S := S) (z := z) (by rw [HQ1.out, HQ2.out]; exact hlt))
      have t : decide (q1 < q2) = true := decide_eq_true hlt
      clear hlt
      obtain ⟨z0, z1⟩ := L3.out.r1.cells
      obtain ⟨y0, y1⟩ := L3.out.r2.cells
      have f0 := L3.out.r1.fz 0
      have f1 := L3.out.r1.fz 1
      have g0 := L3.out.r2.fz 0
      have g1 := L3.out.r2.fz 1
      go_wp2_with fail
      clear z0 z1 y0 y1 f0 f1 g0 g1
      generalize hW : World.setCell _ _ _ = W9
      have hp : LQ w (.slice D N cN) x (.slice A n c) (.slice A2 n2 c2) (⟨0, 0⟩ : E2) (⟨0, 0⟩ : E2) W9 := by first | (rw [← hW]; exact (L3.out.put1 (⟨0, 0⟩ : E2)).put2 (⟨0, 0⟩ : E2)) | (rw [← hW]; exact (L3.out.put2 (⟨0, 0⟩ : E2)).put1 (⟨0, 0⟩ : E2))
      obtain ⟨e0, e1⟩ := hp.r1.cells
      obtain ⟨e2, e3⟩ := hp.r2.cells
      exact bodyPost_ret (v := .tuple #[.agg #[.int .i64 ((⟨0, 0⟩ : E2)).a, .int .i64 ((⟨0, 0⟩ : E2)).b], .agg #[.int .i64 ((⟨0, 0⟩ : E2)).a, .int .i64 ((⟨0, 0⟩ : E2)).b], .bool false]) (by simp [results, Tryz.results14, go_sem, e0, e1, e2, e3]) rfl ⟨ret_p (xpL_no HX.out).symm (xpH_no HX.out).symm HX.out.symm, by first | exact hp.ls.bel | exact hp.ls.bel.drew⟩
    · have HX := Lib.hid (xp_yes HFQ.out (by rw [HQ1.out, HQ2.out]; omega))
      have t : decide (q1 < q2) = false := decide_eq_false hlt
      clear hlt
      go_wp2_with fail
      clear t
      go_loopw [13, 14] (fun i _ wr => ∃ k : Nat, k ≤ n ∧ i = .int .i64 k ∧ (∀ (j : Nat) (z : E2), j < k → R[j]? = some z → (verOf C z).e ≠ q2) ∧ LQ w (.slice D N cN) x (.slice A n c) (.slice A2 n2 c2) ⟨0, 0⟩ ⟨0, 0⟩ wr) (fun i _ _ => n - (intOf i).toNat)
      case atStart => exact ⟨0, by omega, rfl, fun j z hj => absurd hj (by omega), L3.out⟩
      case round =>
        obtain ⟨k, hk, rfl, hP, hL⟩ := hrel
        have LW := Lib.hid hL
        have HPP := Lib.hid hP
        have c0 := hL.ls.st
        obtain ⟨t0, t1, t2, t3, t4, t5, t6, t7, t8⟩ := hL.ls.tb
        clear hL hP t0 t1 t2 t3 t4 t5 t6 t8
        by_cases hlt : k < n
        · obtain ⟨b, o, y, rfl, hbB, hx, a0, a1⟩ := (H1.out.below (below_le LW.out.ls.bel hB)).at_ hlt
          obtain ⟨hst, htx, hall⟩ := rex_parts HRX.out
          have hkey := key_of htx hx
          have hhas := all_at hall hx
          have h6 := val.st_six hst
          rw [H3.out.1] at h6
          have HX2 := Lib.hid hx
          obtain ⟨s1, s2⟩ := hkey
          have s3 : y.a < (N : Int) := by omega
          have s4 : y.a.toNat < N := by omega
          clear h6 hst htx hall
          obtain ⟨b2, o2, l, A', n', c', rfl, hb2, hl, d0, hn', hv⟩ := (H3.out.below (below_le LW.out.ls.bel hB)).at_ s4
          have HL := Lib.hid hl
          have HV := Lib.hid hv
          have hln' := hv.1
          unfold hasV at hhas
          rw [ch_at hl] at hhas
          obtain ⟨j, hj, hjl⟩ := fnd_lt (of_decide_eq_true hhas)
          clear hx hl hv hhas
          obtain ⟨b3, o3, v, rfl, hbB3, hx3, e0, e1, e2, e3, e4⟩ := HV.out.at_ (k := j) (by omega)
          have HJ := Lib.hid hj
          have HVE : Hid ((verOf C y).e = v.e) := Lib.hid (by rw [ver_at HL.out hj hx3])
          have hj1 : (0 : Int) ≤ (j : Int) := by omega
          have hj2 : (j : Int) < (n' : Int) := by omega
          clear hj hx3 e0 e1 e2 e3 hjl hln'
          go_wp2_with fail
          go_quiet (fail)
          go_wp2_with fail
          refine (spec_findq y.b HJ.out hn' (vsd HV.out _)).mono ?_
          rintro e W4 ⟨rfl, rfl⟩
          generalize hW : wr.drewN _ = W4
          have L4 : Hid (LQ w (.slice (some ⟨b2, o2, none⟩) N cN) x (.slice (some ⟨b, o, none⟩) n c) (.slice A2 n2 c2) ⟨0, 0⟩ ⟨0, 0⟩ W4) := Lib.hid (by rw [← hW]; exact LW.out.drewN _)
          have a0' : W4.cell? ⟨b, o + k * 2, none⟩ = some (.int .i64 y.a) := by rw [← hW]; exact a0
          have a1' : W4.cell? ⟨b, o + k * 2 + 1, none⟩ = some (.int .i64 y.b) := by rw [← hW]; exact a1
          have e4' : W4.cell? ⟨b3, o3 + j * 5 + 4, none⟩ = some (.int .i64 v.e) := by rw [← hW]; exact e4
          clear hW c0 t7 a0 a1 e4 d0
          have hsz4 := L4.out.size
          have hwb := L4.out.ls.bel.size
          have hlb : b < W4.heap.size := by omega
          by_cases hvq : v.e = q2
          · have tq : (v.e == q2) = true := by simpa using hvq
            have HVQ := Lib.hid hvq
            have HM2 := Lib.hid (hm_hit HX2.out (HVE.out.trans hvq) HPP.out)
            have HNE := Lib.hid (xp_ne HX.out)
            clear hvq
            have c0 := L4.out.ls.st
            obtain ⟨t0, t1, t2, t3, t4, t5, t6, t7, t8⟩ := L4.out.ls.tb
            go_wp2_with fail
            clear tq
            have hbk0 : Below W4.heap.size W4 W4.drew := (Below.refl _ _).drew
            have M0 := Lib.hid (L4.out.call hbk0)
            go_region_held3 (fun w' => w'.cell? ⟨w.heap.size, 0, none⟩ = some (.slice (some ⟨b2, o2, none⟩) N cN) ∧ w'.cell? ⟨w.heap.size + 1, 0, none⟩ = some (.int .i64 x.i) ∧ w'.cell? ⟨w.heap.size + 1, 1, none⟩ = some (.int .i64 x.s) ∧ w'.cell? ⟨w.heap.size + 1, 2, none⟩ = some (.int .i64 x.t) ∧ w'.cell? ⟨w.heap.size + 1, 3, none⟩ = some (.int .i64 x.b) ∧ w'.cell? ⟨w.heap.size + 1, 4, none⟩ = some (.int .i64 x.l) ∧ w'.cell? ⟨w.heap.size + 1, 5, none⟩ = some (.int .i64 x.h) ∧ w'.cell? ⟨w.heap.size + 1, 6, none⟩ = some (.int .i64 x.c) ∧ w'.cell? ⟨w.heap.size + 1, 7, none⟩ = some (.slice (some ⟨b, o, none⟩) n c) ∧ w'.cell? ⟨w.heap.size + 1, 8, none⟩ = some (.slice A2 n2 c2) ∧ w'.cell? ⟨b, o + k * 2, none⟩ = some (.int .i64 y.a) ∧ w'.cell? ⟨b, o + k * 2 + 1, none⟩ = some (.int .i64 y.b)) (first | ((repeat' apply And.intro) <;> first | with_reducible exact (cell2 (by simp only; omega)).trans (by assumption) | with_reducible exact (cell2 (by simp only; omega)).trans ((cell2 (by simp only; omega)).trans (by assumption))) | go_keep) (first | (go_at_call 37; (with_reducible refine (Go.Proofs.YtbnkkgjkhpbgiaaGreatDoor.lo.spec_lo x (by omega) (by omega) (by omega) (H1.out.below (below_le M0.out.ls.bel hB)) (H2.out.below (below_le M0.out.ls.bel hB)) (H3.out.below (below_le M0.out.ls.bel hB)) (by have := M0.out.size; omega) HRX.out HNE.out).mono ?_); rintro e W5 ⟨he, hb⟩; rw [HM1.out] at he; subst he; have hbk1 := hbk0.trans (hb.mono hbk0.size); clear hb; have M1 := Lib.hid (L4.out.call hbk1); have v0 := M1.out.ls.st; obtain ⟨u0, u1, u2, u3, u4, u5, u6, u7, u8⟩ := M1.out.ls.tb; have k0 := (hbk1.cell (p := ⟨b, o + k * 2, none⟩) hlb).trans a0'; have k1 := (hbk1.cell (p := ⟨b, o + k * 2 + 1, none⟩) hlb).trans a1'; have hlb5 : b < W5.heap.size := Nat.lt_of_lt_of_le hlb hbk1.size; obtain ⟨z0, z1⟩ := M1.out.r1.cells; obtain ⟨y0, y1⟩ := M1.out.r2.cells; have f0 := M1.out.r1.fz 0; have f1 := M1.out.r1.fz 1; have g0 := M1.out.r2.fz 0; have g1 := M1.out.r2.fz 1))
            all_goals
              clear hbk0 hbk1 c0 t0 t1 t2 t3 t4 t5 t6 t7 t8 v0 u0 u1 u2 u3 u4 u5 u6 u7 u8 k0 k1 a0' a1' e4'
              try go_wp2_with fail
              clear z0 z1 y0 y1 f0 f1 g0 g1
              generalize hW : World.setCell _ _ _ = W9
              have hp : LQ w (.slice (some ⟨b2, o2, none⟩) N cN) x (.slice (some ⟨b, o, none⟩) n c) (.slice A2 n2 c2) m1 y W9 := by first | (rw [← hW]; exact (M1.out.put1 m1).put2 y) | (rw [← hW]; exact (M1.out.put2 y).put1 m1)
              obtain ⟨e0, e1⟩ := hp.r1.cells
              obtain ⟨e2, e3⟩ := hp.r2.cells
              exact bodyPost_ret (v := .tuple #[.agg #[.int .i64 (m1).a, .int .i64 (m1).b], .agg #[.int .i64 (y).a, .int .i64 (y).b], .bool true]) (by simp [results, Tryz.results14, go_sem, e0, e1, e2, e3]) rfl ⟨ret_p (by rw [xpL_yes HX.out]; exact HM1.out.symm) (by rw [xpH_yes HX.out, HQ2.out]; exact HM2.out.symm) HX.out.symm, by first | exact hp.ls.bel | exact hp.ls.bel.drew⟩
          · have tq : (v.e == q2) = false := by simpa using hvq
            have HVQ := Lib.hid hvq
            clear hvq
            go_wp2_with fail
            go_roundw
            case rel => exact ⟨k + 1, by omega, by go_num, ne_step (f := fun z => (verOf C z).e) HPP.out HX2.out (by rw [HVE.out]; exact HVQ.out), L4.out⟩
            case measure => simp [intOf]; omega
        · obtain rfl : n = k := by omega
          obtain ⟨j, y, hy, he⟩ := xp_read HX.out
          exact absurd (he.trans HQ2.out) (HPP.out j y (by have := lt_get hy; omega) hy)
end Go.Proofs.YtbnkkgjkhpbgiaaGreatDoor.xs
/- checkRoom of the program, MayCommit of the program and of the model: what each answers; nothing that was there is written. -/
namespace Go.Proofs.YtbnkkgjkhpbgiaaGreatDoor.crm
open Go.ChangeShapes Go.WideShapes Go.ChangeAt Go.RowKit
open Go.Proofs.YtbnkkgjkhpbgiaaGreatDoor.el2 Go.Proofs.YtbnkkgjkhpbgiaaGreatDoor.tx Go.Proofs.YtbnkkgjkhpbgiaaGreatDoor.seq Go.Proofs.YtbnkkgjkhpbgiaaGreatDoor.tv Go.Proofs.YtbnkkgjkhpbgiaaGreatDoor.tf Go.Proofs.YtbnkkgjkhpbgiaaGreatDoor.rx Go.Proofs.YtbnkkgjkhpbgiaaGreatDoor.ri Go.Proofs.YtbnkkgjkhpbgiaaGreatDoor.rl Go.Proofs.YtbnkkgjkhpbgiaaGreatDoor.em Go.Proofs.YtbnkkgjkhpbgiaaGreatDoor.ep Go.Proofs.YtbnkkgjkhpbgiaaGreatDoor.fw Go.Proofs.YtbnkkgjkhpbgiaaGreatDoor.lm
open Go.Proofs.YtbnkkgjkhpbgiaaGreatDoor.vers (new2 ret_b)
open Go.Proofs.YtbnkkgjkhpbgiaaGreatDoor.sl (Ver)
open Go.Proofs.YtbnkkgjkhpbgiaaGreatDoor.st (Rs)
open Go.Proofs.YtbnkkgjkhpbgiaaGreatDoor.val (stB)
set_option linter.unusedVariables false
set_option linter.unusedSimpArgs false
/-- the two listed errors: each the address of a text -/
def Ev (W : World) : Prop := (∃ p, W.cell? ⟨0, 0, none⟩ = some (.iface 168 (.pointer (some p)))) ∧ ∃ p, W.cell? ⟨1, 0, none⟩ = some (.iface 168 (.pointer (some p)))
theorem cell_lt {W : World} {b : Nat} {v : Value} (h : W.cell? ⟨b, 0, none⟩ = some v) : b < W.heap.size := World.block_lt_of_cell? W _ h
theorem Ev.below {w w' : World} (h : Ev w) (hb : Below w.heap.size w w') : Ev w' := by
  obtain ⟨⟨p, h1⟩, q, h2⟩ := h
  exact ⟨⟨p, (hb.cell (p := ⟨0, 0, none⟩) (cell_lt h1)).trans h1⟩, q, (hb.cell (p := ⟨1, 0, none⟩) (cell_lt h2)).trans h2⟩
/-- what checkRoom answers: the pair, nothing, or an error without a pair -/
def CR (C : List (List Ver)) (x : Hd) (R S : List E2) (z : Int) (e : Ending) : Prop :=
  (xpB C x R S z = true ∧ e = .returned (.iface 67 (.agg #[.int .i64 (xpL C x R S z).a, .int .i64 (xpL C x R S z).b, .int .i64 (xpH C x R S z).a, .int .i64 (xpH C x R S z).b]))) ∨
  (xpB C x R S z = false ∧ mayB C x R S z = true ∧ e = .returned .nilIface) ∨
  (xpB C x R S z = false ∧ mayB C x R S z = false ∧ ∃ p, e = .returned (.iface 168 (.pointer (some p))))
theorem cr_pair {C : List (List Ver)} {x : Hd} {R S : List E2} {z : Int} {m1 m2 : E2} (h : fwB C x R S z = true) (h1 : Go.Proofs.YtbnkkgjkhpbgiaaGreatDoor.rh.rhI C x R S ≤ rlI C x R S) (e1 : fstAt (cand C R S) (rlI C x R S) = m1) (e2 : fstAt (sucR C R) (Go.Proofs.YtbnkkgjkhpbgiaaGreatDoor.rh.rhI C x R S) = m2) :
    CR C x R S z (.returned (.iface 67 (.agg #[.int .i64 m1.a, .int .i64 m1.b, .int .i64 m2.a, .int .i64 m2.b]))) := by
  have hx := xp_yes h h1
  exact Or.inl ⟨hx, by rw [xpL_yes hx, xpH_yes hx, e1, e2]⟩
theorem cr_none {C : List (List Ver)} {x : Hd} {R S : List E2} {z : Int} (h : fwB C x R S z = true) (h1 : rlI C x R S < Go.Proofs.YtbnkkgjkhpbgiaaGreatDoor.rh.rhI C x R S) (h2 : fwL C x R S z < fwH C x R S z) : CR C x R S z (.returned .nilIface) :=
  Or.inr (Or.inl ⟨xp_lt h1, by rw [may_is h]; exact decide_eq_true h2, rfl⟩)
theorem cr_room {C : List (List Ver)} {x : Hd} {R S : List E2} {z : Int} {p : Addr} (h : fwB C x R S z = true) (h1 : rlI C x R S < Go.Proofs.YtbnkkgjkhpbgiaaGreatDoor.rh.rhI C x R S) (h2 : ¬ fwL C x R S z < fwH C x R S z) : CR C x R S z (.returned (.iface 168 (.pointer (some p)))) :=
  Or.inr (Or.inr ⟨xp_lt h1, by rw [may_is h]; exact decide_eq_false h2, p, rfl⟩)
theorem cr_no {C : List (List Ver)} {x : Hd} {R S : List E2} {z : Int} {p : Addr} (h : fwB C x R S z = false) : CR C x R S z (.returned (.iface 168 (.pointer (some p)))) :=
  Or.inr (Or.inr ⟨xp_no h, may_no h, p, rfl⟩)
set_option maxRecDepth 100000 in
set_option maxHeartbeats 3200000 in
theorem impl_cr {w : World} {B n c n2 c2 N cN : Nat} {A A2 D : Option Addr} {R S : List E2} {C : List (List Ver)} (x : Hd) (z : Int) (hn : n ≤ 1048576) (hn2 : n2 ≤ 1048576) (hN : N ≤ 1048576) (h1 : Vs w B A n R) (h2 : Vs w B A2 n2 S) (h3 : Rs w B D N C) (hB : B ≤ w.heap.size) (hE : Ev w) :
    Calls Tryz.prog 34 #[.agg #[.slice D N cN], .agg #[.int .i64 x.i, .int .i64 x.s, .int .i64 x.t, .int .i64 x.b, .int .i64 x.l, .int .i64 x.h, .int .i64 x.c, .slice A n c, .slice A2 n2 c2], .int .i64 z] w fun e w' => CR C x R S z e ∧ Below w.heap.size w w' := by
  have H1 := Lib.hid h1
  have H2 := Lib.hid h2
  have H3 := Lib.hid h3
  have HE := Lib.hid hE
  clear h1 h2 h3 hE
  obtain ⟨q1, hq1⟩ : ∃ q, rlI C x R S = q := ⟨_, rfl⟩
  obtain ⟨q2, hq2⟩ : ∃ q, Go.Proofs.YtbnkkgjkhpbgiaaGreatDoor.rh.rhI C x R S = q := ⟨_, rfl⟩
  have HQ1 := Lib.hid hq1
  have HQ2 := Lib.hid hq2
  clear hq1 hq2
  obtain ⟨m1, hm1⟩ : ∃ q, fstAt (cand C R S) q1 = q := ⟨_, rfl⟩
  obtain ⟨m2, hm2⟩ : ∃ q, fstAt (sucR C R) q2 = q := ⟨_, rfl⟩
  have HM1 := Lib.hid hm1
  have HM2 := Lib.hid hm2
  clear hm1 hm2
  obtain ⟨a, ha⟩ : ∃ q, fwL C x R S z = q := ⟨_, rfl⟩
  obtain ⟨b, hb0⟩ : ∃ q, fwH C x R S z = q := ⟨_, rfl⟩
  have HA := Lib.hid ha
  have HBB := Lib.hid hb0
  clear ha hb0
  go_enter Tryz.func34, Tryz.ntmps34
  go_wp2_with fail
  have hL := LS.mk2 w (.slice D N cN) 26 30 x A n c A2 n2 c2
  generalize ((w.alloc _).alloc _) = W0 at hL ⊢
  have L0 := Lib.hid hL
  have c0 := hL.st
  obtain ⟨t0, t1, t2, t3, t4, t5, t6, t7, t8⟩ := hL.tb
  clear hL
  go_wp2_with fail
  refine (impl_fw x z (by omega) (by omega) (by omega) (H1.out.below (below_le L0.out.bel hB)) (H2.out.below (below_le L0.out.bel hB)) (H3.out.below (below_le L0.out.bel hB)) (by have := L0.out.size; omega)).mono ?_
  rintro e W1 ⟨he, hb⟩
  rw [HA.out, HBB.out] at he
  have L1 := Lib.hid (L0.out.call hb)
  have HE1 := Lib.hid (HE.out.below L1.out.bel)
  clear hb c0 t0 t1 t2 t3 t4 t5 t6 t7 t8
  rcases hq : fwB C x R S z with _ | _
  · rw [hq] at he
    subst he
    have HQ := Lib.hid hq
    clear hq
    obtain ⟨⟨p, g0⟩, -⟩ := HE1.out
    go_wp2_with fail
    go_ret
    exact ⟨cr_no HQ.out, L1.out.bel⟩
  rw [hq] at he
  subst he
  have HQ := Lib.hid hq
  have HRX := Lib.hid (fw_parts hq).1
  clear hq
  go_wp2_with fail
  have hbk0 : Below W1.heap.size W1 W1.drew := (Below.refl _ _).drew
  have M0 := Lib.hid (L1.out.call hbk0)
  have c0 := L1.out.st
  obtain ⟨t0, t1, t2, t3, t4, t5, t6, t7, t8⟩ := L1.out.tb
  go_region_held3 (fun w' => w'.cell? ⟨w.heap.size, 0, none⟩ = some (.slice D N cN) ∧ w'.cell? ⟨w.heap.size + 1, 0, none⟩ = some (.int .i64 x.i) ∧ w'.cell? ⟨w.heap.size + 1, 1, none⟩ = some (.int .i64 x.s) ∧ w'.cell? ⟨w.heap.size + 1, 2, none⟩ = some (.int .i64 x.t) ∧ w'.cell? ⟨w.heap.size + 1, 3, none⟩ = some (.int .i64 x.b) ∧ w'.cell? ⟨w.heap.size + 1, 4, none⟩ = some (.int .i64 x.l) ∧ w'.cell? ⟨w.heap.size + 1, 5, none⟩ = some (.int .i64 x.h) ∧ w'.cell? ⟨w.heap.size + 1, 6, none⟩ = some (.int .i64 x.c) ∧ w'.cell? ⟨w.heap.size + 1, 7, none⟩ = some (.slice A n c) ∧ w'.cell? ⟨w.heap.size + 1, 8, none⟩ = some (.slice A2 n2 c2)) (go_keep) (first | (go_at_call 28; (with_reducible refine (Go.Proofs.YtbnkkgjkhpbgiaaGreatDoor.rh.impl_rh x (by omega) (by omega) (by omega) (H1.out.below (below_le M1.out.bel hB)) (H2.out.below (below_le M1.out.bel hB)) (H3.out.below (below_le M1.out.bel hB)) (by have := M1.out.size; omega)).mono ?_); rintro e W2 ⟨he, hb⟩; rw [HQ2.out] at he; subst he; have hbk2 := hbk1.trans (hb.mono hbk1.size); clear hb; have M2 := Lib.hid (L1.out.call hbk2); have v1 := M2.out.st; obtain ⟨u10, u11, u12, u13, u14, u15, u16, u17, u18⟩ := M2.out.tb) | (go_at_call 27; (with_reducible refine (impl_rl x (by omega) (by omega) (by omega) (H1.out.below (below_le M0.out.bel hB)) (H2.out.below (below_le M0.out.bel hB)) (H3.out.below (below_le M0.out.bel hB)) (by have := M0.out.size; omega)).mono ?_); rintro e V1 ⟨he, hb⟩; rw [HQ1.out] at he; subst he; have hbk1 := hbk0.trans (hb.mono hbk0.size); clear hb; have M1 := Lib.hid (L1.out.call hbk1); have v0 := M1.out.st; obtain ⟨u00, u01, u02, u03, u04, u05, u06, u07, u08⟩ := M1.out.tb))
  all_goals
    have L2 := M2
    clear hbk0 c0 t0 t1 t2 t3 t4 t5 t6 t7 t8 hbk1 v0 u00 u01 u02 u03 u04 u05 u06 u07 u08 hbk2 v1 u10 u11 u12 u13 u14 u15 u16 u17 u18 M0 M1 M2
    have HE2 := Lib.hid (HE.out.below L2.out.bel)
    by_cases hlt : q2 ≤ q1
    · have HLT := Lib.hid hlt
      have t : decide (q2 ≤ q1) = true := decide_eq_true hlt
      clear hlt
      go_wp2_with fail
      have hbk0 : Below W2.heap.size W2 W2.drew := (Below.refl _ _).drew
      have M0 := Lib.hid (L2.out.call hbk0)
      have c0 := L2.out.st
      obtain ⟨t0, t1, t2, t3, t4, t5, t6, t7, t8⟩ := L2.out.tb
      go_region_held3 (fun w' => w'.cell? ⟨w.heap.size, 0, none⟩ = some (.slice D N cN) ∧ w'.cell? ⟨w.heap.size + 1, 0, none⟩ = some (.int .i64 x.i) ∧ w'.cell? ⟨w.heap.size + 1, 1, none⟩ = some (.int .i64 x.s) ∧ w'.cell? ⟨w.heap.size + 1, 2, none⟩ = some (.int .i64 x.t) ∧ w'.cell? ⟨w.heap.size + 1, 3, none⟩ = some (.int .i64 x.b) ∧ w'.cell? ⟨w.heap.size + 1, 4, none⟩ = some (.int .i64 x.l) ∧ w'.cell? ⟨w.heap.size + 1, 5, none⟩ = some (.int .i64 x.h) ∧ w'.cell? ⟨w.heap.size + 1, 6, none⟩ = some (.int .i64 x.c) ∧ w'.cell? ⟨w.heap.size + 1, 7, none⟩ = some (.slice A n c) ∧ w'.cell? ⟨w.heap.size + 1, 8, none⟩ = some (.slice A2 n2 c2)) (go_keep) (first | (go_at_call 60; (with_reducible refine (impl_hm x q2 (by omega) (by omega) (by omega) (H1.out.below (below_le M1.out.bel hB)) (H2.out.below (below_le M1.out.bel hB)) (H3.out.below (below_le M1.out.bel hB)) (by have := M1.out.size; omega) HRX.out).mono ?_); rintro e W3 ⟨he, hb⟩; rw [HM2.out] at he; subst he; have hbk2 := hbk1.trans (hb.mono hbk1.size); clear hb; have M2 := Lib.hid (L2.out.call hbk2); have v1 := M2.out.st; obtain ⟨u10, u11, u12, u13, u14, u15, u16, u17, u18⟩ := M2.out.tb) | (go_at_call 59; (with_reducible refine (impl_lm x q1 (by omega) (by omega) (by omega) (H1.out.below (below_le M0.out.bel hB)) (H2.out.below (below_le M0.out.bel hB)) (H3.out.below (below_le M0.out.bel hB)) (by have := M0.out.size; omega) HRX.out).mono ?_); rintro e V1 ⟨he, hb⟩; rw [HM1.out] at he; subst he; have hbk1 := hbk0.trans (hb.mono hbk0.size); clear hb; have M1 := Lib.hid (L2.out.call hbk1); have v0 := M1.out.st; obtain ⟨u00, u01, u02, u03, u04, u05, u06, u07, u08⟩ := M1.out.tb))
      all_goals
        have L3 := M2
        clear hbk0 c0 t0 t1 t2 t3 t4 t5 t6 t7 t8 hbk1 v0 u00 u01 u02 u03 u04 u05 u06 u07 u08 hbk2 v1 u10 u11 u12 u13 u14 u15 u16 u17 u18 M0 M1 M2
        try go_wp2_with fail
        go_ret
        exact ⟨cr_pair HQ.out (by rw [HQ1.out, HQ2.out]; exact HLT.out) (by rw [HQ1.out]; exact HM1.out) (by rw [HQ2.out]; exact HM2.out), L3.out.bel⟩
    · have HLT := Lib.hid (show rlI C x R S < Go.Proofs.YtbnkkgjkhpbgiaaGreatDoor.rh.rhI C x R S by rw [HQ1.out, HQ2.out]; omega)
      have t : decide (q2 ≤ q1) = false := decide_eq_false hlt
      clear hlt
      by_cases hab : b ≤ a
      · have HAB := Lib.hid (show ¬ fwL C x R S z < fwH C x R S z by rw [HA.out, HBB.out]; omega)
        have t2 : decide (b ≤ a) = true := decide_eq_true hab
        clear hab
        obtain ⟨-, p, g1⟩ := HE2.out
        go_wp2_with fail
        go_ret
        exact ⟨cr_room HQ.out HLT.out (by have := HAB.out; omega), L2.out.bel⟩
      · have HAB := Lib.hid (show fwL C x R S z < fwH C x R S z by rw [HA.out, HBB.out]; omega)
        have t2 : decide (b ≤ a) = false := decide_eq_false hab
        clear hab
        go_wp2_with fail
        go_ret
        exact ⟨cr_none HQ.out HLT.out HAB.out, L2.out.bel⟩
set_option maxRecDepth 100000 in
set_option maxHeartbeats 3200000 in
theorem impl_may {w : World} {B n c n2 c2 N cN : Nat} {A A2 D : Option Addr} {R S : List E2} {C : List (List Ver)} (x : Hd) (z : Int) (hn : n ≤ 1048576) (hn2 : n2 ≤ 1048576) (hN : N ≤ 1048576) (h1 : Vs w B A n R) (h2 : Vs w B A2 n2 S) (h3 : Rs w B D N C) (hB : B ≤ w.heap.size) (hE : Ev w) :
    Calls Tryz.prog 9 #[.agg #[.slice D N cN], .agg #[.int .i64 x.i, .int .i64 x.s, .int .i64 x.t, .int .i64 x.b, .int .i64 x.l, .int .i64 x.h, .int .i64 x.c, .slice A n c, .slice A2 n2 c2], .int .i64 z] w fun e w' => e = .returned (.bool (mayB C x R S z)) ∧ Below w.heap.size w w' := by
  have H1 := Lib.hid h1
  have H2 := Lib.hid h2
  have H3 := Lib.hid h3
  have HE := Lib.hid hE
  clear h1 h2 h3 hE
  go_enter Tryz.func9, Tryz.ntmps9
  go_wp2_with fail
  have hL := LS.mk2 w (.slice D N cN) 26 30 x A n c A2 n2 c2
  generalize ((w.alloc _).alloc _) = W0 at hL ⊢
  have L0 := Lib.hid hL
  have c0 := hL.st
  obtain ⟨t0, t1, t2, t3, t4, t5, t6, t7, t8⟩ := hL.tb
  clear hL
  go_wp2_with fail
  refine (impl_cr x z (by omega) (by omega) (by omega) (H1.out.below (below_le L0.out.bel hB)) (H2.out.below (below_le L0.out.bel hB)) (H3.out.below (below_le L0.out.bel hB)) (by have := L0.out.size; omega) (HE.out.below L0.out.bel)).mono ?_
  rintro e W1 ⟨he, hb⟩
  have L1 := Lib.hid (L0.out.call hb)
  clear hb c0 t0 t1 t2 t3 t4 t5 t6 t7 t8
  rcases he with ⟨h, rfl⟩ | ⟨h, h2, rfl⟩ | ⟨h, h2, p, rfl⟩
  · have HX := Lib.hid (may_xp h)
    clear h
    go_wp2_with fail
    go_ret
    exact ⟨ret_b HX.out.symm, L1.out.bel⟩
  · have HX := Lib.hid h2
    clear h h2
    go_wp2_with fail
    go_ret
    exact ⟨ret_b HX.out.symm, L1.out.bel⟩
  · have HX := Lib.hid h2
    clear h h2
    go_wp2_with fail
    go_ret
    exact ⟨ret_b HX.out.symm, L1.out.bel⟩
set_option maxRecDepth 100000 in
set_option maxHeartbeats 3200000 in
theorem spec_may {w : World} {B n c n2 c2 N cN : Nat} {A A2 D : Option Addr} {R S : List E2} {C : List (List Ver)} (x : Hd) (z : Int) (hn : n ≤ 1048576) (hn2 : n2 ≤ 1048576) (hN : N ≤ 1048576) (h1 : Vs w B A n R) (h2 : Vs w B A2 n2 S) (h3 : Rs w B D N C) (hB : B ≤ w.heap.size) :
    Calls Tryz.prog 10 #[.agg #[.slice D N cN], .agg #[.int .i64 x.i, .int .i64 x.s, .int .i64 x.t, .int .i64 x.b, .int .i64 x.l, .int .i64 x.h, .int .i64 x.c, .slice A n c, .slice A2 n2 c2], .int .i64 z] w fun e w' => e = .returned (.bool (mayB C x R S z)) ∧ Below w.heap.size w w' := by
  have H1 := Lib.hid h1
  have H2 := Lib.hid h2
  have H3 := Lib.hid h3
  clear h1 h2 h3
  obtain ⟨a, ha⟩ : ∃ q, fwL C x R S z = q := ⟨_, rfl⟩
  obtain ⟨b, hb0⟩ : ∃ q, fwH C x R S z = q := ⟨_, rfl⟩
  have HA := Lib.hid ha
  have HBB := Lib.hid hb0
  clear ha hb0
  go_enter Tryz.func10, Tryz.ntmps10
  go_wp2_with fail
  have hL := LS.mk2 w (.slice D N cN) 26 30 x A n c A2 n2 c2
  generalize ((w.alloc _).alloc _) = W0 at hL ⊢
  have L0 := Lib.hid hL
  have c0 := hL.st
  obtain ⟨t0, t1, t2, t3, t4, t5, t6, t7, t8⟩ := hL.tb
  clear hL
  go_wp2_with fail
  refine (spec_fw x z (by omega) (by omega) (by omega) (H1.out.below (below_le L0.out.bel hB)) (H2.out.below (below_le L0.out.bel hB)) (H3.out.below (below_le L0.out.bel hB)) (by have := L0.out.size; omega)).mono ?_
  rintro e W1 ⟨he, hb⟩
  rw [HA.out, HBB.out] at he
  have L1 := Lib.hid (L0.out.call hb)
  clear hb c0 t0 t1 t2 t3 t4 t5 t6 t7 t8
  rcases hq : fwB C x R S z with _ | _
  · rw [hq] at he
    subst he
    have HQ := Lib.hid (may_no hq)
    clear hq
    go_wp2_with fail
    go_ret
    exact ⟨ret_b HQ.out.symm, L1.out.bel⟩
  · rw [hq] at he
    subst he
    have HQ := Lib.hid (may_is hq)
    clear hq
    go_wp2_with fail
    go_ret
    exact ⟨ret_b (by rw [HQ.out, HA.out, HBB.out]), L1.out.bel⟩
end Go.Proofs.YtbnkkgjkhpbgiaaGreatDoor.crm
/- errors.As at a target of type *impl.exclusion: no error; an error of the program's own type that is it; an error that is not (the address of a text). -/
namespace Go.Proofs.YtbnkkgjkhpbgiaaGreatDoor.asx
open Go.RowKit Go.Extern.Stop Go.Stop Go.Extern
set_option linter.unusedVariables false
set_option linter.unusedSimpArgs false
theorem as_nil (t : Value) (w : World) :
    Calls Tryz.prog 35 #[.nilIface, t] w fun e w' => e = .returned (.bool false) ∧ w' = w := by
  go_enter Tryz.func35, Tryz.ntmps35
  go_wp2
  go_ret
  exact ⟨rfl, rfl⟩
/-! closed facts on the model's entries for internal/reflectlite at this program's types -/
theorem valueOfP (t : Addr) (w : World) : (ReflectliteValue.unpack (.iface 69 (.pointer (some t)))).run Tryz.prog w
    = .ok (.agg #[.pointer (some ⟨3, 69, none⟩), .pointer (some ⟨w.heap.size, 0, none⟩), .int .u64 150]) (w.alloc (.cells #[.pointer (some t)] 69)) := by kernel_rfl
theorem typeP (a : Addr) (w : World) : (ReflectliteValue.methodAny (ReflectliteValue.valueError "reflectlite.Value.Type" 0) (fun t _ _ _ => ReflectliteType.toType t) #[.agg #[.pointer (some ⟨3, 69, none⟩), .pointer (some a), .int .u64 150]]).run Tryz.prog w
    = .ok (.iface 138 (.agg #[.pointer (some ⟨3, 69, none⟩)])) w := by kernel_rfl
theorem kindP (w : World) : ((ReflectliteType.abiMethod fun t => (fun a : Nat => Value.int IntKind.u8 (a : Int)) <$> Rtype.kind t) #[.pointer (some ⟨3, 69, none⟩)]).run Tryz.prog w = .ok (.int .u8 22) w := by kernel_rfl
theorem kindX (w : World) : ((ReflectliteType.abiMethod fun t => (fun a : Nat => Value.int IntKind.u8 (a : Int)) <$> Rtype.kind t) #[.pointer (some ⟨3, 67, none⟩)]).run Tryz.prog w = .ok (.int .u8 25) w := by kernel_rfl
theorem rlm (z : Sem Value) (f : TypeId → Addr → Nat → Nat → Sem Value) (v : Value) :
    ReflectliteValue.method z f #[v] = (do match ← ReflectliteValue.parts v with | none => z | some (t, a, fl) => f t a fl (fl % 32)) := rfl
theorem partsP (a : Addr) (w : World) : (ReflectliteValue.parts (.agg #[.pointer (some ⟨3, 69, none⟩), .pointer (some a), .int .u64 150])).run Tryz.prog w = .ok (some (69, a, 150)) w := by kernel_rfl
/-- (Value).IsNil at the Value of a pointer that is not nil. -/
theorem isNilP (a p : Addr) (W : World) (ha : W.cell? a = some (.pointer (some p))) :
    (ReflectliteValue.method (ReflectliteValue.valueError "reflectlite.Value.IsNil" 0) ReflectliteValue.isNil #[.agg #[.pointer (some ⟨3, 69, none⟩), .pointer (some a), .int .u64 150]]).run Tryz.prog W = .ok (.bool false) W := by
  rw [rlm]
  simp only [Sem.run_bind, partsP, Result.andThen]
  simp [ReflectliteValue.isNil, loadVar, isAgg, underlying, Tryz.underlying69, ha, Result.andThen]
theorem elemP (w : World) : (ReflectliteType.method ReflectliteType.elem #[.agg #[.pointer (some ⟨3, 69, none⟩)]]).run Tryz.prog w = .ok (.iface 138 (.agg #[.pointer (some ⟨3, 67, none⟩)])) w := by kernel_rfl
theorem implementsX (w : World) : (ReflectliteType.relation "Implements" ReflectliteType.implements_ #[.agg #[.pointer (some ⟨3, 67, none⟩)], .iface 138 (.agg #[.pointer (some ⟨3, 64, none⟩)])]).run Tryz.prog w = .ok (.bool true) w := by kernel_rfl
theorem typeOfX (v : Value) (w : World) : (ReflectliteType.typeOf #[.iface 67 v]).run Tryz.prog w = .ok (.iface 138 (.agg #[.pointer (some ⟨3, 67, none⟩)])) w := by kernel_rfl
theorem typeOfS (v : Value) (w : World) : (ReflectliteType.typeOf #[.iface 168 v]).run Tryz.prog w = .ok (.iface 138 (.agg #[.pointer (some ⟨3, 168, none⟩)])) w := by kernel_rfl
theorem assignableX (w : World) : (ReflectliteType.relation "AssignableTo" ReflectliteType.assignableTo #[.agg #[.pointer (some ⟨3, 67, none⟩)], .iface 138 (.agg #[.pointer (some ⟨3, 67, none⟩)])]).run Tryz.prog w = .ok (.bool true) w := by kernel_rfl
theorem assignableS (w : World) : (ReflectliteType.relation "AssignableTo" ReflectliteType.assignableTo #[.agg #[.pointer (some ⟨3, 168, none⟩)], .iface 138 (.agg #[.pointer (some ⟨3, 67, none⟩)])]).run Tryz.prog w = .ok (.bool false) w := by kernel_rfl
theorem valueOfX (a b c d : Int) (w : World) : (ReflectliteValue.unpack (.iface 67 (.agg #[.int .i64 a, .int .i64 b, .int .i64 c, .int .i64 d]))).run Tryz.prog w
    = .ok (.agg #[.pointer (some ⟨3, 67, none⟩), .pointer (some ⟨w.heap.size, 0, none⟩), .int .u64 153]) (w.alloc (.cells #[.int .i64 a, .int .i64 b, .int .i64 c, .int .i64 d] 67)) := by kernel_rfl

theorem methodKind (h : Value) (w : World) : (Go.method 302 138 (.agg #[h]) "Kind").run Tryz.prog w = .ok (132, h) w := by kernel_rfl
theorem methodElem (h : Value) (w : World) : (Go.method 302 138 (.agg #[h]) "Elem").run Tryz.prog w = .ok (143, .agg #[h]) w := by kernel_rfl
theorem methodImplements (h : Value) (w : World) : (Go.method 302 138 (.agg #[h]) "Implements").run Tryz.prog w = .ok (144, .agg #[h]) w := by kernel_rfl
theorem methodAssignableTo (h : Value) (w : World) : (Go.method 302 138 (.agg #[h]) "AssignableTo").run Tryz.prog w = .ok (141, .agg #[h]) w := by kernel_rfl
theorem elemOfP (w : World) : (Rtype.elem? 69).run Tryz.prog w = .ok (some 67) w := by kernel_rfl
theorem mkX (p : Addr) (w : World) : (ReflectliteValue.mk 67 p ReflectliteValue.flagAddr).run Tryz.prog w = .ok (.agg #[.pointer (some ⟨3, 67, none⟩), .pointer (some p), .int .u64 409]) w := by kernel_rfl
/-- (Value).Elem at the Value of a pointer that is not nil: the Value of the variable that it points to, addressable. -/
theorem elemVP (a p : Addr) (W : World) (ha : W.cell? a = some (.pointer (some p))) :
    (ReflectliteValue.method (ReflectliteValue.valueError "reflectlite.Value.Elem" 0) ReflectliteValue.elem #[.agg #[.pointer (some ⟨3, 69, none⟩), .pointer (some a), .int .u64 150]]).run Tryz.prog W
      = .ok (.agg #[.pointer (some ⟨3, 67, none⟩), .pointer (some p), .int .u64 409]) W := by
  rw [rlm]
  simp only [Sem.run_bind, partsP, Result.andThen]
  simp [ReflectliteValue.elem, loadVar, isAgg, underlying, Tryz.underlying69, ha, Result.andThen, elemOfP, mkX]
theorem rls (v x : Value) : ReflectliteValue.set #[v, x] = (do
    let (some (dst, a, fl), some (src, b, _)) := (← ReflectliteValue.parts v, ← ReflectliteValue.parts x)
      | unsupported (.noEntry "extern/(internal/reflectlite.Value).Set.zeroValue")
    if fl / ReflectliteValue.flagAddr % 2 == 0 then unsupported (.noEntry "extern/(internal/reflectlite.Value).Set.unaddressable")
    let val ← loadVar src b
    if ← Rtype.directlyAssignable dst src then storeVar dst a val
    else if ← Rtype.implements dst src then
      if (← Rtype.kind src) == 20 then
        match val with
        | .nilIface => unsupported (.noEntry "extern/reflectlite: a nil value of one interface type handed on as a value of another")
        | _ => storeVar dst a val
      else storeVar dst a (.iface src val)
    else panicString ("reflectlite.Set: value of type " ++ (← Rtype.spelt src) ++ " is not assignable to type " ++ (← Rtype.spelt dst))
    pure (.tuple #[])) := rfl
theorem partsXa (a : Addr) (w : World) : (ReflectliteValue.parts (.agg #[.pointer (some ⟨3, 67, none⟩), .pointer (some a), .int .u64 409])).run Tryz.prog w = .ok (some (67, a, 409)) w := by kernel_rfl
theorem partsX (a : Addr) (w : World) : (ReflectliteValue.parts (.agg #[.pointer (some ⟨3, 67, none⟩), .pointer (some a), .int .u64 153])).run Tryz.prog w = .ok (some (67, a, 153)) w := by kernel_rfl
theorem directX (w : World) : (Rtype.directlyAssignable 67 67).run Tryz.prog w = .ok true w := by kernel_rfl
theorem infoX : (Tryz.prog.info? 67).map (·.size) = some 4 := by kernel_rfl
/-- (Value).Set: the variable at block 'tb' gets what the Value's own variable at block 'bb' holds. -/
theorem setX (tb bb : Nat) (a b c d : Int) (old : Array Value) (tt t2 : TypeId) (fz : Nat × Nat) (W : World) (hb : W.heap[bb]? = some (.cells #[.int .i64 a, .int .i64 b, .int .i64 c, .int .i64 d] t2 fz)) (ht : W.heap[tb]? = some (.cells old tt (0, 0))) (ho : old.size = 4) :
    (ReflectliteValue.set #[.agg #[.pointer (some ⟨3, 67, none⟩), .pointer (some ⟨tb, 0, none⟩), .int .u64 409], .agg #[.pointer (some ⟨3, 67, none⟩), .pointer (some ⟨bb, 0, none⟩), .int .u64 153]]).run Tryz.prog W
      = .ok (.tuple #[]) (W.setRow tb #[.int .i64 a, .int .i64 b, .int .i64 c, .int .i64 d]) := by
  have hl := run_loadVar_row (P := Tryz.prog) W bb t2 67 #[.int .i64 a, .int .i64 b, .int .i64 c, .int .i64 d] fz _ hb Tryz.underlying67 rfl infoX
  have hs := run_storeVar_row (P := Tryz.prog) W tb tt 67 old #[.int .i64 a, .int .i64 b, .int .i64 c, .int .i64 d] ht infoX (by simpa using ho) (by simp [Value.oneCell'])
  rw [rls]
  simp only [Sem.run_bind, partsXa, partsX, Result.andThen]
  simp [ReflectliteValue.flagAddr, hl, hs, directX, Result.andThen]
theorem lacksAs (v : Value) (xT : TypeId) (w : World) : (Instr.typeAssert (.iface 168 v) xT 143 true).run Tryz.prog w = .ok (.tuple #[.nilIface, .bool false]) w := run_typeAssert_lacksB Tryz.underlying143 (by kernel_rfl) (by kernel_rfl) v xT w
theorem lacksUn (v : Value) (xT : TypeId) (w : World) : (Instr.typeAssert (.iface 168 v) xT 146 true).run Tryz.prog w = .ok (.tuple #[.nilIface, .bool false]) w := run_typeAssert_lacksB Tryz.underlying146 (by kernel_rfl) (by kernel_rfl) v xT w
theorem lacksUns (v : Value) (xT : TypeId) (w : World) : (Instr.typeAssert (.iface 168 v) xT 148 true).run Tryz.prog w = .ok (.tuple #[.nilIface, .bool false]) w := run_typeAssert_lacksB Tryz.underlying148 (by kernel_rfl) (by kernel_rfl) v xT w
/-- the handle of the type 'error' -/
def Eh (W : World) : Prop := W.cell? ⟨2, 0, none⟩ = some (.iface 138 (.agg #[.pointer (some ⟨3, 64, none⟩)]))
theorem Eh.below {w w' : World} (h : Eh w) (hb : Below w.heap.size w w') : Eh w' := (hb.cell (p := ⟨2, 0, none⟩) (World.block_lt_of_cell? w _ h)).trans h

set_option maxHeartbeats 4000000 in
set_option maxRecDepth 100000 in
theorem as_hit (tb : Nat) (a b c d : Int) (old : Array Value) (tt : TypeId) (w : World) (hg : Eh w) (ht : w.heap[tb]? = some (.cells old tt (0, 0))) (ho : old.size = 4) :
    Calls Tryz.prog 35 #[.iface 67 (.agg #[.int .i64 a, .int .i64 b, .int .i64 c, .int .i64 d]), .iface 69 (.pointer (some ⟨tb, 0, none⟩))] w fun ev w' => ev = .returned (.bool true) ∧ w' = (((((w.alloc (.cells #[.pointer (some ⟨tb, 0, none⟩)] 69)).alloc (.cells #[.pointer (some ⟨3, 69, none⟩), .pointer (some ⟨w.heap.size, 0, none⟩), .int .u64 150] 101)).alloc (.cells #[.pointer (some ⟨3, 69, none⟩), .pointer (some ⟨w.heap.size, 0, none⟩), .int .u64 150] 101)).alloc (.cells #[.int .i64 a, .int .i64 b, .int .i64 c, .int .i64 d] 67))).setRow tb #[.int .i64 a, .int .i64 b, .int .i64 c, .int .i64 d] := by
  have x_valueOf := @run_callFunc_extern Tryz.prog 61 _ (fun args => ReflectliteValue.unpack (args.getD 0 (.tuple #[]))) Tryz.func61 (by kernel_rfl) (by kernel_rfl) (by kernel_rfl) (by kernel_rfl)
  have x_type := @run_callFunc_extern Tryz.prog 62 _ (ReflectliteValue.methodAny (ReflectliteValue.valueError "reflectlite.Value.Type" 0) (fun t _ _ _ => ReflectliteType.toType t)) Tryz.func62 (by kernel_rfl) (by kernel_rfl) (by kernel_rfl) (by kernel_rfl)
  have x_isnil := @run_callFunc_extern Tryz.prog 63 _ (ReflectliteValue.method (ReflectliteValue.valueError "reflectlite.Value.IsNil" 0) ReflectliteValue.isNil) Tryz.func63 (by kernel_rfl) (by kernel_rfl) (by kernel_rfl) (by kernel_rfl)
  have x_kind := @run_callFunc_extern Tryz.prog 132 _ (ReflectliteType.abiMethod fun t => do pure (.int .u8 (← Rtype.kind t))) Tryz.func132 (by kernel_rfl) (by kernel_rfl) (by kernel_rfl) (by kernel_rfl)
  have x_elem := @run_callFunc_extern Tryz.prog 143 _ (ReflectliteType.method ReflectliteType.elem) Tryz.func143 (by kernel_rfl) (by kernel_rfl) (by kernel_rfl) (by kernel_rfl)
  have x_impl := @run_callFunc_extern Tryz.prog 144 _ (ReflectliteType.relation "Implements" ReflectliteType.implements_) Tryz.func144 (by kernel_rfl) (by kernel_rfl) (by kernel_rfl) (by kernel_rfl)
  have x_typeOf := @run_callFunc_extern Tryz.prog 88 _ ReflectliteType.typeOf Tryz.func88 (by kernel_rfl) (by kernel_rfl) (by kernel_rfl) (by kernel_rfl)
  have x_assign := @run_callFunc_extern Tryz.prog 141 _ (ReflectliteType.relation "AssignableTo" ReflectliteType.assignableTo) Tryz.func141 (by kernel_rfl) (by kernel_rfl) (by kernel_rfl) (by kernel_rfl)
  have x_velem := @run_callFunc_extern Tryz.prog 89 _ (ReflectliteValue.method (ReflectliteValue.valueError "reflectlite.Value.Elem" 0) ReflectliteValue.elem) Tryz.func89 (by kernel_rfl) (by kernel_rfl) (by kernel_rfl) (by kernel_rfl)
  have x_vset := @run_callFunc_extern Tryz.prog 90 _ ReflectliteValue.set Tryz.func90 (by kernel_rfl) (by kernel_rfl) (by kernel_rfl) (by kernel_rfl)
  have hlt : 2 < w.heap.size := World.block_lt_of_cell? w _ hg
  have htl : tb < w.heap.size := by
    rcases Nat.lt_or_ge tb w.heap.size with h | h
    · exact h
    · rw [Array.getElem?_eq_none h] at ht; cases ht
  have f6 := valueOfP
  have f7 := typeP
  have mK := methodKind
  have mE := methodElem
  have mI := methodImplements
  have mA := methodAssignableTo
  have kP := kindP
  have kX := kindX
  have eP := elemP
  have iX := implementsX
  have n8 := isNilP ⟨w.heap.size, 0, none⟩ ⟨tb, 0, none⟩ ((w.alloc (.cells #[.pointer (some ⟨tb, 0, none⟩)] 69)).alloc (.cells #[.pointer (some ⟨3, 69, none⟩), .pointer (some ⟨w.heap.size, 0, none⟩), .int .u64 150] 101)) (by simp)
  have hg2 : ((w.alloc (.cells #[.pointer (some ⟨tb, 0, none⟩)] 69)).alloc (.cells #[.pointer (some ⟨3, 69, none⟩), .pointer (some ⟨w.heap.size, 0, none⟩), .int .u64 150] 101)).cell? ⟨2, 0, none⟩ = some (.iface 138 (.agg #[.pointer (some ⟨3, 64, none⟩)])) := by
    rw [World.cell?_alloc_lt _ _ ⟨2, 0, none⟩ (by simp; omega), World.cell?_alloc_lt _ _ ⟨2, 0, none⟩ hlt]; exact hg
  have hb4 : Below w.heap.size w ((((w.alloc (.cells #[.pointer (some ⟨tb, 0, none⟩)] 69)).alloc (.cells #[.pointer (some ⟨3, 69, none⟩), .pointer (some ⟨w.heap.size, 0, none⟩), .int .u64 150] 101)).alloc (.cells #[.pointer (some ⟨3, 69, none⟩), .pointer (some ⟨w.heap.size, 0, none⟩), .int .u64 150] 101)).alloc (.cells #[.int .i64 a, .int .i64 b, .int .i64 c, .int .i64 d] 67)) := ((((Below.refl _ _).alloc (Nat.le_refl _) _).alloc (by simp) _).alloc (by simp; omega) _).alloc (by simp; omega) _
  have tO := typeOfX
  have aX := assignableX
  have vX := valueOfX
  have el := elemVP ⟨w.heap.size, 0, none⟩ ⟨tb, 0, none⟩ (((w.alloc (.cells #[.pointer (some ⟨tb, 0, none⟩)] 69)).alloc (.cells #[.pointer (some ⟨3, 69, none⟩), .pointer (some ⟨w.heap.size, 0, none⟩), .int .u64 150] 101)).alloc (.cells #[.pointer (some ⟨3, 69, none⟩), .pointer (some ⟨w.heap.size, 0, none⟩), .int .u64 150] 101)) (by rw [World.cell?_alloc_lt _ _ ⟨w.heap.size, 0, none⟩ (by simp; omega)]; simp)
  have st := setX tb (w.heap.size + 1 + 1 + 1) a b c d old tt 67 (0, 0) ((((w.alloc (.cells #[.pointer (some ⟨tb, 0, none⟩)] 69)).alloc (.cells #[.pointer (some ⟨3, 69, none⟩), .pointer (some ⟨w.heap.size, 0, none⟩), .int .u64 150] 101)).alloc (.cells #[.pointer (some ⟨3, 69, none⟩), .pointer (some ⟨w.heap.size, 0, none⟩), .int .u64 150] 101)).alloc (.cells #[.int .i64 a, .int .i64 b, .int .i64 c, .int .i64 d] 67)) (by have := heap_alloc_new (((w.alloc (.cells #[.pointer (some ⟨tb, 0, none⟩)] 69)).alloc (.cells #[.pointer (some ⟨3, 69, none⟩), .pointer (some ⟨w.heap.size, 0, none⟩), .int .u64 150] 101)).alloc (.cells #[.pointer (some ⟨3, 69, none⟩), .pointer (some ⟨w.heap.size, 0, none⟩), .int .u64 150] 101)) (.cells #[.int .i64 a, .int .i64 b, .int .i64 c, .int .i64 d] 67); simpa using this) (by
    exact (hb4.block tb htl).trans ht) ho
  unfold Eh at hg
  go_enter Tryz.func35, Tryz.ntmps35
  go_wp2
  refine wp_loop_rounds 1 ?_
  rw [rounds_succ]
  go_wp2
  go_ret
  exact ⟨rfl, rfl⟩

set_option maxHeartbeats 4000000 in
set_option maxRecDepth 100000 in
theorem as_miss (tb : Nat) (p : Value) (old : Array Value) (tt : TypeId) (w : World) (hg : Eh w) (ht : w.heap[tb]? = some (.cells old tt (0, 0))) :
    Calls Tryz.prog 35 #[.iface 168 p, .iface 69 (.pointer (some ⟨tb, 0, none⟩))] w fun ev w' => ev = .returned (.bool false) ∧ w' = (((w.alloc (.cells #[.pointer (some ⟨tb, 0, none⟩)] 69)).alloc (.cells #[.pointer (some ⟨3, 69, none⟩), .pointer (some ⟨w.heap.size, 0, none⟩), .int .u64 150] 101)).alloc (.cells #[.pointer (some ⟨3, 69, none⟩), .pointer (some ⟨w.heap.size, 0, none⟩), .int .u64 150] 101)) := by
  have x_valueOf := @run_callFunc_extern Tryz.prog 61 _ (fun args => ReflectliteValue.unpack (args.getD 0 (.tuple #[]))) Tryz.func61 (by kernel_rfl) (by kernel_rfl) (by kernel_rfl) (by kernel_rfl)
  have x_type := @run_callFunc_extern Tryz.prog 62 _ (ReflectliteValue.methodAny (ReflectliteValue.valueError "reflectlite.Value.Type" 0) (fun t _ _ _ => ReflectliteType.toType t)) Tryz.func62 (by kernel_rfl) (by kernel_rfl) (by kernel_rfl) (by kernel_rfl)
  have x_isnil := @run_callFunc_extern Tryz.prog 63 _ (ReflectliteValue.method (ReflectliteValue.valueError "reflectlite.Value.IsNil" 0) ReflectliteValue.isNil) Tryz.func63 (by kernel_rfl) (by kernel_rfl) (by kernel_rfl) (by kernel_rfl)
  have x_kind := @run_callFunc_extern Tryz.prog 132 _ (ReflectliteType.abiMethod fun t => do pure (.int .u8 (← Rtype.kind t))) Tryz.func132 (by kernel_rfl) (by kernel_rfl) (by kernel_rfl) (by kernel_rfl)
  have x_elem := @run_callFunc_extern Tryz.prog 143 _ (ReflectliteType.method ReflectliteType.elem) Tryz.func143 (by kernel_rfl) (by kernel_rfl) (by kernel_rfl) (by kernel_rfl)
  have x_impl := @run_callFunc_extern Tryz.prog 144 _ (ReflectliteType.relation "Implements" ReflectliteType.implements_) Tryz.func144 (by kernel_rfl) (by kernel_rfl) (by kernel_rfl) (by kernel_rfl)
  have x_typeOf := @run_callFunc_extern Tryz.prog 88 _ ReflectliteType.typeOf Tryz.func88 (by kernel_rfl) (by kernel_rfl) (by kernel_rfl) (by kernel_rfl)
  have x_assign := @run_callFunc_extern Tryz.prog 141 _ (ReflectliteType.relation "AssignableTo" ReflectliteType.assignableTo) Tryz.func141 (by kernel_rfl) (by kernel_rfl) (by kernel_rfl) (by kernel_rfl)
  have hlt : 2 < w.heap.size := World.block_lt_of_cell? w _ hg
  have htl : tb < w.heap.size := by
    rcases Nat.lt_or_ge tb w.heap.size with h | h
    · exact h
    · rw [Array.getElem?_eq_none h] at ht; cases ht
  have f6 := valueOfP
  have f7 := typeP
  have mK := methodKind
  have mE := methodElem
  have mI := methodImplements
  have mA := methodAssignableTo
  have kP := kindP
  have kX := kindX
  have eP := elemP
  have iX := implementsX
  have n8 := isNilP ⟨w.heap.size, 0, none⟩ ⟨tb, 0, none⟩ ((w.alloc (.cells #[.pointer (some ⟨tb, 0, none⟩)] 69)).alloc (.cells #[.pointer (some ⟨3, 69, none⟩), .pointer (some ⟨w.heap.size, 0, none⟩), .int .u64 150] 101)) (by simp)
  have hg2 : ((w.alloc (.cells #[.pointer (some ⟨tb, 0, none⟩)] 69)).alloc (.cells #[.pointer (some ⟨3, 69, none⟩), .pointer (some ⟨w.heap.size, 0, none⟩), .int .u64 150] 101)).cell? ⟨2, 0, none⟩ = some (.iface 138 (.agg #[.pointer (some ⟨3, 64, none⟩)])) := by
    rw [World.cell?_alloc_lt _ _ ⟨2, 0, none⟩ (by simp; omega), World.cell?_alloc_lt _ _ ⟨2, 0, none⟩ hlt]; exact hg
  have tO := typeOfS
  have aX := assignableS
  have l1 := lacksAs
  have l2 := lacksUn
  have l3 := lacksUns
  unfold Eh at hg
  go_enter Tryz.func35, Tryz.ntmps35
  go_wp2
  refine wp_loop_rounds 1 ?_
  rw [rounds_succ]
  go_wp2
  go_ret
  exact ⟨rfl, rfl⟩

theorem as_hit_b (tb : Nat) (a b c d : Int) (old : Array Value) (tt : TypeId) (w : World) (hg : Eh w) (ht : w.heap[tb]? = some (.cells old tt (0, 0))) (ho : old.size = 4) :
    Calls Tryz.prog 35 #[.iface 67 (.agg #[.int .i64 a, .int .i64 b, .int .i64 c, .int .i64 d]), .iface 69 (.pointer (some ⟨tb, 0, none⟩))] w fun ev w' => ev = .returned (.bool true) ∧ ∃ V, Below w.heap.size w V ∧ w' = V.setRow tb #[.int .i64 a, .int .i64 b, .int .i64 c, .int .i64 d] := by
  have hb4 : Below w.heap.size w ((((w.alloc (.cells #[.pointer (some ⟨tb, 0, none⟩)] 69)).alloc (.cells #[.pointer (some ⟨3, 69, none⟩), .pointer (some ⟨w.heap.size, 0, none⟩), .int .u64 150] 101)).alloc (.cells #[.pointer (some ⟨3, 69, none⟩), .pointer (some ⟨w.heap.size, 0, none⟩), .int .u64 150] 101)).alloc (.cells #[.int .i64 a, .int .i64 b, .int .i64 c, .int .i64 d] 67)) := ((((Below.refl _ _).alloc (Nat.le_refl _) _).alloc (by simp) _).alloc (by simp; omega) _).alloc (by simp; omega) _
  exact (as_hit tb a b c d old tt w hg ht ho).mono fun e w' ⟨he, hw⟩ => ⟨he, _, hb4, hw⟩
theorem as_miss_b (tb : Nat) (p : Value) (old : Array Value) (tt : TypeId) (w : World) (hg : Eh w) (ht : w.heap[tb]? = some (.cells old tt (0, 0))) :
    Calls Tryz.prog 35 #[.iface 168 p, .iface 69 (.pointer (some ⟨tb, 0, none⟩))] w fun ev w' => ev = .returned (.bool false) ∧ Below w.heap.size w w' := by
  have hb3 : Below w.heap.size w (((w.alloc (.cells #[.pointer (some ⟨tb, 0, none⟩)] 69)).alloc (.cells #[.pointer (some ⟨3, 69, none⟩), .pointer (some ⟨w.heap.size, 0, none⟩), .int .u64 150] 101)).alloc (.cells #[.pointer (some ⟨3, 69, none⟩), .pointer (some ⟨w.heap.size, 0, none⟩), .int .u64 150] 101)) := (((Below.refl _ _).alloc (Nat.le_refl _) _).alloc (by simp) _).alloc (by simp; omega) _
  exact (as_miss tb p old tt w hg ht).mono fun e w' ⟨he, hw⟩ => ⟨he, by rw [hw]; exact hb3⟩
end Go.Proofs.YtbnkkgjkhpbgiaaGreatDoor.asx
/- ExcludingPair of the program: what it answers; nothing that was there is written. -/
namespace Go.Proofs.YtbnkkgjkhpbgiaaGreatDoor.xi
open Go.ChangeShapes Go.WideShapes Go.ChangeAt Go.RowKit
open Go.Proofs.YtbnkkgjkhpbgiaaGreatDoor.el2 Go.Proofs.YtbnkkgjkhpbgiaaGreatDoor.tx Go.Proofs.YtbnkkgjkhpbgiaaGreatDoor.seq Go.Proofs.YtbnkkgjkhpbgiaaGreatDoor.tv Go.Proofs.YtbnkkgjkhpbgiaaGreatDoor.tf Go.Proofs.YtbnkkgjkhpbgiaaGreatDoor.rx Go.Proofs.YtbnkkgjkhpbgiaaGreatDoor.ri Go.Proofs.YtbnkkgjkhpbgiaaGreatDoor.rl Go.Proofs.YtbnkkgjkhpbgiaaGreatDoor.ov Go.Proofs.YtbnkkgjkhpbgiaaGreatDoor.bx Go.Proofs.YtbnkkgjkhpbgiaaGreatDoor.mx Go.Proofs.YtbnkkgjkhpbgiaaGreatDoor.em Go.Proofs.YtbnkkgjkhpbgiaaGreatDoor.ep
open Go.Proofs.YtbnkkgjkhpbgiaaGreatDoor.vers (new2)
open Go.Proofs.YtbnkkgjkhpbgiaaGreatDoor.sl (Ver)
open Go.Proofs.YtbnkkgjkhpbgiaaGreatDoor.st (Rs)
open Go.Proofs.YtbnkkgjkhpbgiaaGreatDoor.val (stB)
set_option linter.unusedVariables false
set_option linter.unusedSimpArgs false
open Go.Proofs.YtbnkkgjkhpbgiaaGreatDoor.fw Go.Proofs.YtbnkkgjkhpbgiaaGreatDoor.lq Go.Proofs.YtbnkkgjkhpbgiaaGreatDoor.crm Go.Proofs.YtbnkkgjkhpbgiaaGreatDoor.xs
open Go.Proofs.YtbnkkgjkhpbgiaaGreatDoor.asx (Eh as_nil as_hit_b as_miss_b)
theorem off_row (W : World) (b : Nat) (cs : Array Value) : Off b W (W.setRow b cs) := ⟨rfl, rfl, rfl, by simp, fun k hk => setRow_other W b k cs hk⟩
/-- the boxes, and the one that the pair is to be laid into -/
structure LP (w : World) (sv : Value) (x : Hd) (u1 u2 : Value) (W : World) : Prop where
  lq : LQ w sv x u1 u2 ⟨0, 0⟩ ⟨0, 0⟩ W
  size : w.heap.size + 5 ≤ W.heap.size
  pb : ∃ cs : Array Value, W.heap[w.heap.size + 4]? = some (.cells cs 67 (0, 0)) ∧ cs.size = 4
section
variable {w W W' : World} {x : Hd} {u1 u2 sv : Value}
theorem LP.keep (h : LP w sv x u1 u2 W) (hb : Below (w.heap.size + 5) W W') : LP w sv x u1 u2 W' := by
  obtain ⟨cs, h1, h2⟩ := h.pb
  exact ⟨h.lq.keep (hb.mono (by omega)), Nat.le_trans h.size hb.size, cs, (hb.block _ (by omega)).trans h1, h2⟩
theorem LP.call (h : LP w sv x u1 u2 W) (hb : Below W.heap.size W W') : LP w sv x u1 u2 W' := h.keep (below_le hb h.size)
/-- the pair is laid -/
theorem LP.laid (h : LP w sv x u1 u2 W) (a b c d : Int) : LQ w sv x u1 u2 ⟨0, 0⟩ ⟨0, 0⟩ (W.setRow (w.heap.size + 4) #[.int .i64 a, .int .i64 b, .int .i64 c, .int .i64 d]) ∧
    (W.setRow (w.heap.size + 4) #[.int .i64 a, .int .i64 b, .int .i64 c, .int .i64 d]).cell? ⟨w.heap.size + 4, 0, none⟩ = some (.int .i64 a) ∧ (W.setRow (w.heap.size + 4) #[.int .i64 a, .int .i64 b, .int .i64 c, .int .i64 d]).cell? ⟨w.heap.size + 4, 1, none⟩ = some (.int .i64 b) ∧ (W.setRow (w.heap.size + 4) #[.int .i64 a, .int .i64 b, .int .i64 c, .int .i64 d]).cell? ⟨w.heap.size + 4, 2, none⟩ = some (.int .i64 c) ∧ (W.setRow (w.heap.size + 4) #[.int .i64 a, .int .i64 b, .int .i64 c, .int .i64 d]).cell? ⟨w.heap.size + 4, 3, none⟩ = some (.int .i64 d) ∧
    w.heap.size + 5 ≤ (W.setRow (w.heap.size + 4) #[.int .i64 a, .int .i64 b, .int .i64 c, .int .i64 d]).heap.size := by
  obtain ⟨cs, h1, h2⟩ := h.pb
  have hc := fun j => cell_setRow_same W (w.heap.size + 4) j cs #[.int .i64 a, .int .i64 b, .int .i64 c, .int .i64 d] _ _ h1
  exact ⟨h.lq.keep ((off_row W (w.heap.size + 4) _).below (Nat.le_refl _)), hc 0, hc 1, hc 2, hc 3, by simp; exact h.size⟩
end
theorem LP.mk5 (w : World) (x : Hd) (A A2 D : Option Addr) (n c n2 c2 N cN : Nat) : LP w (.slice D N cN) x (.slice A n c) (.slice A2 n2 c2) (((((w.alloc (.cells #[.slice D N cN] 26)).alloc (.cells #[.int .i64 x.i, .int .i64 x.s, .int .i64 x.t, .int .i64 x.b, .int .i64 x.l, .int .i64 x.h, .int .i64 x.c, .slice A n c, .slice A2 n2 c2] 30)).alloc (.cells #[.int .i64 0, .int .i64 0] 38)).alloc (.cells #[.int .i64 0, .int .i64 0] 38)).alloc (.cells #[.int .i64 0, .int .i64 0, .int .i64 0, .int .i64 0] 67)) where
  lq := (LQ.mk4 w x A A2 D n c n2 c2 N cN).call (new1 _ _)
  size := by simp
  pb := ⟨_, by have := heap_alloc_new ((((w.alloc (.cells #[.slice D N cN] 26)).alloc (.cells #[.int .i64 x.i, .int .i64 x.s, .int .i64 x.t, .int .i64 x.b, .int .i64 x.l, .int .i64 x.h, .int .i64 x.c, .slice A n c, .slice A2 n2 c2] 30)).alloc (.cells #[.int .i64 0, .int .i64 0] 38)).alloc (.cells #[.int .i64 0, .int .i64 0] 38)) (.cells #[.int .i64 0, .int .i64 0, .int .i64 0, .int .i64 0] 67); rw [show ((((w.alloc (.cells #[.slice D N cN] 26)).alloc (.cells #[.int .i64 x.i, .int .i64 x.s, .int .i64 x.t, .int .i64 x.b, .int .i64 x.l, .int .i64 x.h, .int .i64 x.c, .slice A n c, .slice A2 n2 c2] 30)).alloc (.cells #[.int .i64 0, .int .i64 0] 38)).alloc (.cells #[.int .i64 0, .int .i64 0] 38)).heap.size = w.heap.size + 4 by simp] at this; exact this, rfl⟩
set_option maxRecDepth 100000 in
set_option maxHeartbeats 6400000 in
theorem impl_xp {w : World} {B n c n2 c2 N cN : Nat} {A A2 D : Option Addr} {R S : List E2} {C : List (List Ver)} (x : Hd) (z : Int) (hn : n ≤ 1048576) (hn2 : n2 ≤ 1048576) (hN : N ≤ 1048576) (h1 : Vs w B A n R) (h2 : Vs w B A2 n2 S) (h3 : Rs w B D N C) (hB : B ≤ w.heap.size) (hE : Ev w) (hG : Eh w) :
    Calls Tryz.prog 13 #[.agg #[.slice D N cN], .agg #[.int .i64 x.i, .int .i64 x.s, .int .i64 x.t, .int .i64 x.b, .int .i64 x.l, .int .i64 x.h, .int .i64 x.c, .slice A n c, .slice A2 n2 c2], .int .i64 z] w fun e w' => e = .returned (.tuple #[.agg #[.int .i64 (xpL C x R S z).a, .int .i64 (xpL C x R S z).b], .agg #[.int .i64 (xpH C x R S z).a, .int .i64 (xpH C x R S z).b], .bool (xpB C x R S z)]) ∧ Below w.heap.size w w' := by
  have H1 := Lib.hid h1
  have H2 := Lib.hid h2
  have H3 := Lib.hid h3
  have HE := Lib.hid hE
  have HG := Lib.hid hG
  clear h1 h2 h3 hE hG
  obtain ⟨m1, hm1⟩ : ∃ q, xpL C x R S z = q := ⟨_, rfl⟩
  obtain ⟨m2, hm2⟩ : ∃ q, xpH C x R S z = q := ⟨_, rfl⟩
  have HM1 := Lib.hid hm1
  have HM2 := Lib.hid hm2
  clear hm1 hm2
  go_enter Tryz.func13, Tryz.ntmps13
  go_wp2_with fail
  have hL := LP.mk5 w x A A2 D n c n2 c2 N cN
  generalize (((((w.alloc _).alloc _).alloc _).alloc _).alloc _) = W0 at hL ⊢
  have L0 := Lib.hid hL
  have c0 := hL.lq.ls.st
  obtain ⟨t0, t1, t2, t3, t4, t5, t6, t7, t8⟩ := hL.lq.ls.tb
  clear hL
  go_wp2_with fail
  refine (impl_cr x z (by omega) (by omega) (by omega) (H1.out.below (below_le L0.out.lq.ls.bel hB)) (H2.out.below (below_le L0.out.lq.ls.bel hB)) (H3.out.below (below_le L0.out.lq.ls.bel hB)) (by have := L0.out.size; omega) (HE.out.below L0.out.lq.ls.bel)).mono ?_
  rintro e W1 ⟨he, hb⟩
  have L1 := Lib.hid (L0.out.call hb)
  have HG1 := Lib.hid (HG.out.below L1.out.lq.ls.bel)
  clear hb c0 t0 t1 t2 t3 t4 t5 t6 t7 t8
  rcases he with ⟨h, rfl⟩ | ⟨h, -, rfl⟩ | ⟨h, -, p, rfl⟩
  · have HX := Lib.hid h
    rw [HM1.out, HM2.out]
    clear h
    go_wp2_with fail
    obtain ⟨cs, hcs, hcz⟩ := L1.out.pb
    refine (as_hit_b (w.heap.size + 4) m1.a m1.b m2.a m2.b cs _ W1 HG1.out hcs hcz).mono ?_
    rintro e W2 ⟨rfl, V, hb4, hW⟩
    have hl := (L1.out.call hb4).laid m1.a m1.b m2.a m2.b
    rw [← hW] at hl
    obtain ⟨hq, p0, p1, p2, p3, hs5⟩ := hl
    have L2 := Lib.hid hq
    clear hW hb4 hq hcs hcz
    obtain ⟨z0, z1⟩ := L2.out.r1.cells
    obtain ⟨y0, y1⟩ := L2.out.r2.cells
    have f0 := L2.out.r1.fz 0
    have f1 := L2.out.r1.fz 1
    have g0 := L2.out.r2.fz 0
    have g1 := L2.out.r2.fz 1
    go_wp2_with fail
    go_region_held3 (fun w' => w'.cell? ⟨w.heap.size + 4, 0, none⟩ = some (.int .i64 (m1.a)) ∧ w'.cell? ⟨w.heap.size + 4, 1, none⟩ = some (.int .i64 (m1.b)) ∧ w'.cell? ⟨w.heap.size + 4, 2, none⟩ = some (.int .i64 (m2.a)) ∧ w'.cell? ⟨w.heap.size + 4, 3, none⟩ = some (.int .i64 (m2.b))) (first | ((repeat' apply And.intro) <;> first | with_reducible exact (cell2 (by simp only; omega)).trans (by assumption) | with_reducible exact (cell2 (by simp only; omega)).trans ((cell2 (by simp only; omega)).trans (by assumption))) | go_keep) (fail)
    all_goals
      clear p0 p1 p2 p3
      try go_wp2_with fail
      clear z0 z1 y0 y1 f0 f1 g0 g1
      generalize hW : World.setCell _ _ _ = W9
      have hp : LQ w (.slice D N cN) x (.slice A n c) (.slice A2 n2 c2) m1 m2 W9 := by first | (rw [← hW]; exact (L2.out.put1 m1).put2 m2) | (rw [← hW]; exact (L2.out.put2 m2).put1 m1)
      obtain ⟨e0, e1⟩ := hp.r1.cells
      obtain ⟨e2, e3⟩ := hp.r2.cells
      exact bodyPost_ret (v := .tuple #[.agg #[.int .i64 (m1).a, .int .i64 (m1).b], .agg #[.int .i64 (m2).a, .int .i64 (m2).b], .bool true]) (by simp [results, Tryz.results13, go_sem, e0, e1, e2, e3]) rfl ⟨ret_p HM1.out.symm HM2.out.symm HX.out.symm, by first | exact hp.ls.bel | exact hp.ls.bel.drew⟩
  · have HX := Lib.hid h
    clear h
    go_wp2_with fail
    refine (as_nil _ W1).mono ?_
    rintro e W2 ⟨rfl, rfl⟩
    have L2 := Lib.hid L1.out.lq
    obtain ⟨z0, z1⟩ := L2.out.r1.cells
    obtain ⟨y0, y1⟩ := L2.out.r2.cells
    have f0 := L2.out.r1.fz 0
    have f1 := L2.out.r1.fz 1
    have g0 := L2.out.r2.fz 0
    have g1 := L2.out.r2.fz 1
    go_wp2_with fail
    clear z0 z1 y0 y1 f0 f1 g0 g1
    generalize hW : World.setCell _ _ _ = W9
    have hp : LQ w (.slice D N cN) x (.slice A n c) (.slice A2 n2 c2) (⟨0, 0⟩ : E2) (⟨0, 0⟩ : E2) W9 := by first | (rw [← hW]; exact (L2.out.put1 (⟨0, 0⟩ : E2)).put2 (⟨0, 0⟩ : E2)) | (rw [← hW]; exact (L2.out.put2 (⟨0, 0⟩ : E2)).put1 (⟨0, 0⟩ : E2))
    obtain ⟨e0, e1⟩ := hp.r1.cells
    obtain ⟨e2, e3⟩ := hp.r2.cells
    exact bodyPost_ret (v := .tuple #[.agg #[.int .i64 ((⟨0, 0⟩ : E2)).a, .int .i64 ((⟨0, 0⟩ : E2)).b], .agg #[.int .i64 ((⟨0, 0⟩ : E2)).a, .int .i64 ((⟨0, 0⟩ : E2)).b], .bool false]) (by simp [results, Tryz.results13, go_sem, e0, e1, e2, e3]) rfl ⟨ret_p (xpL_no HX.out).symm (xpH_no HX.out).symm HX.out.symm, by first | exact hp.ls.bel | exact hp.ls.bel.drew⟩
  · have HX := Lib.hid h
    clear h
    go_wp2_with fail
    obtain ⟨cs, hcs, hcz⟩ := L1.out.pb
    refine (as_miss_b (w.heap.size + 4) _ cs _ W1 HG1.out hcs).mono ?_
    rintro e W2 ⟨rfl, hb4⟩
    have hl := (L1.out.call hb4).lq
    have L2 := Lib.hid hl
    clear hb4 hl hcs hcz
    obtain ⟨z0, z1⟩ := L2.out.r1.cells
    obtain ⟨y0, y1⟩ := L2.out.r2.cells
    have f0 := L2.out.r1.fz 0
    have f1 := L2.out.r1.fz 1
    have g0 := L2.out.r2.fz 0
    have g1 := L2.out.r2.fz 1
    go_wp2_with fail
    clear z0 z1 y0 y1 f0 f1 g0 g1
    generalize hW : World.setCell _ _ _ = W9
    have hp : LQ w (.slice D N cN) x (.slice A n c) (.slice A2 n2 c2) (⟨0, 0⟩ : E2) (⟨0, 0⟩ : E2) W9 := by first | (rw [← hW]; exact (L2.out.put1 (⟨0, 0⟩ : E2)).put2 (⟨0, 0⟩ : E2)) | (rw [← hW]; exact (L2.out.put2 (⟨0, 0⟩ : E2)).put1 (⟨0, 0⟩ : E2))
    obtain ⟨e0, e1⟩ := hp.r1.cells
    obtain ⟨e2, e3⟩ := hp.r2.cells
    exact bodyPost_ret (v := .tuple #[.agg #[.int .i64 ((⟨0, 0⟩ : E2)).a, .int .i64 ((⟨0, 0⟩ : E2)).b], .agg #[.int .i64 ((⟨0, 0⟩ : E2)).a, .int .i64 ((⟨0, 0⟩ : E2)).b], .bool false]) (by simp [results, Tryz.results13, go_sem, e0, e1, e2, e3]) rfl ⟨ret_p (xpL_no HX.out).symm (xpH_no HX.out).symm HX.out.symm, by first | exact hp.ls.bel | exact hp.ls.bel.drew⟩
end Go.Proofs.YtbnkkgjkhpbgiaaGreatDoor.xi
namespace Go.Proofs.YtbnkkgjkhpbgiaaGreatDoor.erv
open Go.RowKit
theorem gW : Tryz.prog.globalNamed "loop.example/g01924/impl.errNoWindow" = some 0 := by kernel_rfl
theorem gR : Tryz.prog.globalNamed "loop.example/g01924/impl.errNoRoom" = some 1 := by kernel_rfl
theorem tW : (Tryz.prog.globals[0]?).map (·.type) = some 64 := by kernel_rfl
theorem tR : (Tryz.prog.globals[1]?).map (·.type) = some 64 := by kernel_rfl
theorem cellsT : Tryz.prog.cellsOf 190 = 1 := by kernel_rfl
theorem cellsS : Tryz.prog.cellsOf 9 = 1 := by kernel_rfl
theorem star : "*" ++ "errors.errorString" = "*errors.errorString" := by decide
theorem rowT (u : TypeId) (h : Tryz.prog.typeName? 3 u = some "*errors.errorString") : u = 168 :=
  typeName_ptr_named (nm := "errors.errorString") (by rw [star]; kernel_rfl) (by kernel_rfl) (by decide) u (by rw [star]; exact h)
theorem ev_of {W : World} {r : List (String × DataW Unit)} (h : laidMet Tryz.prog (("loop.example/g01924/impl.errNoWindow", Rows.laid_loop_example_g01924_impl_errNoWindow) :: ("loop.example/g01924/impl.errNoRoom", Rows.laid_loop_example_g01924_impl_errNoRoom) :: r) W) : crm.Ev W := by
  obtain ⟨a0, s0, hv0, -, -, -⟩ := laid_sentinel h gW tW Tryz.underlying64 rowT Tryz.underlying168 Tryz.underlying190 rfl rfl Tryz.underlying9 cellsT cellsS
  obtain ⟨a1, s1, hv1, -, -, -⟩ := laid_sentinel h.tail gR tR Tryz.underlying64 rowT Tryz.underlying168 Tryz.underlying190 rfl rfl Tryz.underlying9 cellsT cellsS
  exact ⟨⟨a0, by simpa using World.var?_cell gW hv0 0⟩, a1, by simpa using World.var?_cell gR hv1 0⟩
abbrev text0 : ByteArray := { data := #[116, 104, 101, 32, 116, 114, 97, 110, 115, 97, 99, 116, 105, 111, 110, 32, 99, 97, 110, 110, 111, 116, 32, 99, 111, 109, 109, 105, 116, 32, 119, 105, 116, 104, 32, 116, 104, 105, 115, 32, 115, 116, 97, 109, 112] }
abbrev text1 : ByteArray := { data := #[116, 104, 101, 32, 119, 105, 110, 100, 111, 119, 32, 104, 97, 115, 32, 110, 111, 32, 114, 111, 111, 109] }
noncomputable def low : Nat := (World.holding Tryz.prog default ⟨#[], #[], []⟩).heap.size
def setCells (v : Array Value) : Obj → Obj
  | .cells _ t frozen => .cells v t frozen
  | o => o
noncomputable def errWorld (os : Os) : World :=
  { World.holding Tryz.prog os ⟨#[.cells #[.string text0] 190, .cells #[.string text1] 190], #[], []⟩ with heap := ((World.holding Tryz.prog os ⟨#[.cells #[.string text0] 190, .cells #[.string text1] 190], #[], []⟩).heap.modify 0 (setCells #[.iface 168 (.pointer (some ⟨low, 0, none⟩))])).modify 1 (setCells #[.iface 168 (.pointer (some ⟨low + 1, 0, none⟩))]) }
def readVars (H : Type) : List (DataW H) := [Rows.laid_loop_example_g01924_impl_errNoWindow, Rows.laid_loop_example_g01924_impl_errNoRoom]
theorem gH : Tryz.prog.globalNamed "errors.errorType" = some 2 := by kernel_rfl
theorem rtH : (Tryz.prog.cutTypes.find? (·.1 == "internal/reflectlite.rtype")).map (·.2) = some 138 := by kernel_rfl
theorem oneRow : ((List.range 202).filter fun t => Tryz.prog.rowNamed t [101, 114, 114, 111, 114]) = [64] := by kernel_rfl
theorem sizeT : Tryz.prog.types.size = 202 := by kernel_rfl
/-- what the three listed variables give -/
def Facts (W : World) : Prop := crm.Ev W ∧ asx.Eh W
theorem Facts.ev {W : World} (h : Facts W) : crm.Ev W := h.1
theorem Facts.eh {W : World} (h : Facts W) : asx.Eh W := h.2
theorem Facts.below {w w' : World} (h : Facts w) (hb : Below w.heap.size w w') : Facts w' := ⟨crm.Ev.below h.1 hb, asx.Eh.below h.2 hb⟩
theorem facts3 {W : World} (h : laidMetH Tryz.prog [("errors.errorType", Rows.laid_errors_errorType), ("loop.example/g01924/impl.errNoWindow", Rows.laid_loop_example_g01924_impl_errNoWindow), ("loop.example/g01924/impl.errNoRoom", Rows.laid_loop_example_g01924_impl_errNoRoom)] W) : Facts W := by
  have h' : laidMet Tryz.prog [("loop.example/g01924/impl.errNoWindow", Rows.laid_loop_example_g01924_impl_errNoWindow), ("loop.example/g01924/impl.errNoRoom", Rows.laid_loop_example_g01924_impl_errNoRoom)] W ∧ handlesMet Tryz.prog [("errors.errorType", Rows.laid_errors_errorType)] W := h
  refine ⟨ev_of (r := []) h'.1, ?_⟩
  obtain ⟨name, u, ty, e1, e2, e3, e4, e5⟩ := h'.2 _ (List.mem_singleton.2 rfl)
  have en : name = [101, 114, 114, 111, 114] := (Option.some.inj e1).symm
  subst en
  obtain rfl := Option.some.inj (rtH.symm.trans e2)
  have hm : ty ∈ (List.range 202).filter fun t => Tryz.prog.rowNamed t [101, 114, 114, 111, 114] := List.mem_filter.2 ⟨List.mem_range.2 (by rw [← sizeT]; exact e3), e4⟩
  rw [oneRow] at hm
  obtain rfl := List.mem_singleton.1 hm
  have hh : typeHandle Tryz.prog 64 = .pointer (some ⟨3, 64, none⟩) := by kernel_rfl
  rw [hh] at e5
  simpa [asx.Eh] using World.var?_cell gH e5 0
noncomputable def errWorldH (os : Os) : World := { errWorld os with heap := (errWorld os).heap.modify 2 (setCells #[.iface 138 (.agg #[.pointer (some ⟨3, 64, none⟩)])]) }
end Go.Proofs.YtbnkkgjkhpbgiaaGreatDoor.erv
