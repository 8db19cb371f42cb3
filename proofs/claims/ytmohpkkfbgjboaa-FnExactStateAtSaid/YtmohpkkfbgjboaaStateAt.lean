/- StateAt of the program answers as its model at every store and every integer: the law returns true and writes nothing that was there; its answer shares no memory. No condition. -/
import Derived.Test.YtmohpkkfbgjboaaOpenS
import Derived.Test.YtmohpkkfbgjboaaSa
import Derived.Test.YtmohpkkfbgjboaaMarkS
import Derived.WalkKit
import Derived.ProofKit
import Derived.OpenShut
import Derived.ShutString
import Derived.ChangeOld
import Derived.Below
import Derived.Carry
import Derived.Lib.Hide
import Derived.StillTailTactics
import Derived.Deep.RegionHeld3
import Derived.Deep.DeepHandedRow
namespace Go.Proofs.Ytmohpkkfbgjboaa.fnExactStateAt
open Go.ChangeShapes Go.WideShapes Go.ChangeAt Go.RowKit
open Go.ChangeMaps (open_string shut_string)
open Go.Proofs.Ytmohpkkfbgjboaa.vers Go.Proofs.Ytmohpkkfbgjboaa.sl Go.Proofs.Ytmohpkkfbgjboaa.opn Go.Proofs.Ytmohpkkfbgjboaa.ch Go.Proofs.Ytmohpkkfbgjboaa.st Go.Proofs.Ytmohpkkfbgjboaa.opns Go.Proofs.Ytmohpkkfbgjboaa.rd Go.Proofs.Ytmohpkkfbgjboaa.ints Go.Proofs.Ytmohpkkfbgjboaa.sa
set_option linter.unusedVariables false
theorem is_len {w : World} {B m n : Nat} {A : Option Addr} {xs : List Int} (h : Is w B A m xs) (hl : xs.length = n) : m = n := by rw [← h.1, hl]
/-- the answer's marks, and what follows: at a new row of six, at nil alike -/
structure G (A : Option Addr) (n : Nat) (lo : Nat) (w : World) (xs : List Int) : Prop where
  is : Is w w.heap.size A n xs
  own : (n = 0 ∧ A = none) ∨ ∃ g, n = 6 ∧ A = some ⟨g, 0, none⟩ ∧ lo ≤ g ∧ IR w g 6 0 0
theorem G.below {A : Option Addr} {n lo : Nat} {w w' : World} {xs : List Int} (h : G A n lo w xs) (hb : Below w.heap.size w w') : G A n lo w' xs where
  is := (h.is.below hb).more hb.size
  own := by
    rcases h.own with h0 | ⟨g, h1, h2, h3, h4⟩
    · exact .inl h0
    · exact .inr ⟨g, h1, h2, h3, h4.below hb h4.lt⟩
theorem ans_g {xs : List Int} {w w' : World} {e : Ending} (h : AnsR xs w e w') : ∃ A n c, e = .returned (.slice A n c) ∧ G A n w.heap.size w' xs ∧ Below w.heap.size w w' := by
  rcases h with ⟨he, hx, hb⟩ | ⟨g, he, hg, hir, his, hb⟩
  · exact ⟨none, 0, 0, he, ⟨by rw [hx]; exact Is.nil_ _ _ _, .inl ⟨rfl, rfl⟩⟩, hb⟩
  · exact ⟨_, 6, 6, he, ⟨his, .inr ⟨g, rfl, rfl, hg, hir⟩⟩, hb⟩
/-- the marked answer -/
def GM (A : Option Addr) (n : Nat) (w : World) : Prop := (n = 0 ∧ A = none) ∨ ∃ g, n = 6 ∧ A = some ⟨g, 0, none⟩ ∧ IR w g 6 1 6
theorem GM.below {A : Option Addr} {n : Nat} {w w' : World} (h : GM A n w) (hb : Below w.heap.size w w') : GM A n w' := by
  rcases h with h0 | ⟨g, h1, h2, h4⟩
  · exact .inl h0
  · exact .inr ⟨g, h1, h2, h4.below hb h4.lt⟩
theorem mark_g {A : Option Addr} {n lo c : Nat} {w : World} {xs : List Int} (h : G A n lo w xs) :
    Calls Try.prog 33 #[.slice A n c, .int .i64 1] w fun e w' => e = .returned (.int .i64 (1 + (n : Int))) ∧ GM A n w' ∧ Below lo w w' := by
  rcases h.own with ⟨rfl, rfl⟩ | ⟨g, rfl, rfl, h3, h4⟩
  · exact (Go.Proofs.Ytmohpkkfbgjboaa.ints.mark_ints0 none c 1 w).mono fun e w' ⟨he, hw⟩ => ⟨he, .inl ⟨rfl, rfl⟩, by rw [hw]; exact Below.refl _ _⟩
  · exact (Go.Proofs.Ytmohpkkfbgjboaa.ints.mark_ints (by omega) (by omega) (by omega) (Nat.le_refl _) (h4.zero 1)).mono fun e w' ⟨he, hm, ho⟩ => ⟨he, .inr ⟨g, rfl, rfl, hm⟩, ho.below (by rintro k rfl; exact h3)⟩
theorem held_g {A : Option Addr} {n c : Nat} {w : World} (h : GM A n w) :
    Calls Try.prog 34 #[.slice A n c, .int .i64 1] w fun e w' => e = .returned (.int .i64 (1 + (n : Int))) ∧ w = w' := by
  rcases h with ⟨rfl, rfl⟩ | ⟨g, rfl, rfl, h4⟩
  · exact Go.Proofs.Ytmohpkkfbgjboaa.ints.held_ints0 none c 1 w
  · exact Go.Proofs.Ytmohpkkfbgjboaa.ints.held_ints (by omega) (by omega) (by omega) (Nat.le_refl _) h4
/-- blocks lo < k < hi alone have changed -/
structure Mid (lo hi : Nat) (w w' : World) : Prop where
  os : w'.os = w.os
  tape : w'.tape = w.tape
  output : w'.output = w.output
  size : w.heap.size ≤ w'.heap.size
  block : ∀ k, ¬ (lo < k ∧ k < hi) → k < w.heap.size → w'.heap[k]? = w.heap[k]?
theorem Mid.below {lo hi B : Nat} {w w' : World} (h : Mid lo hi w w') (hB : B ≤ lo) (hs : B ≤ w.heap.size) : Below B w w' := ⟨h.os, h.tape, h.output, h.size, fun k hk => h.block k (by omega) (by omega)⟩
theorem Mid.g {lo hi l : Nat} {w w' : World} {A : Option Addr} {n : Nat} {xs : List Int} (h : Mid lo hi w w') (hg : G A n l w xs) (hl : hi ≤ l) : G A n l w' xs := by
  have own : (n = 0 ∧ A = none) ∨ ∃ g, n = 6 ∧ A = some ⟨g, 0, none⟩ ∧ l ≤ g ∧ IR w' g 6 0 0 := by
    rcases hg.own with h0 | ⟨g, h1, h2, h3, h4⟩
    · exact .inl h0
    · exact .inr ⟨g, h1, h2, h3, h4.of_block (h.block g (by omega) h4.lt)⟩
  refine ⟨⟨hg.is.1, fun hn => ?_⟩, own⟩
  obtain ⟨b, o, e, hb, hc⟩ := hg.is.2 hn
  rcases hg.own with ⟨h0, _⟩ | ⟨g, h1, h2, h3, h4⟩
  · omega
  · rw [h2] at e
    simp only [Option.some.injEq, Addr.mk.injEq, and_true] at e
    obtain ⟨rfl, rfl⟩ := e
    refine ⟨g, 0, h2, by have := h.size; omega, fun k x hx => ?_⟩
    rw [← hc k x hx]
    exact World.cell?_of_block (w := w) (a := ⟨g, 0 + k, none⟩) (h.block g (by omega) h4.lt)
set_option maxHeartbeats 3200000 in
theorem walk (a0 : Option Addr) (len0 cap0 : Nat) (l0 : List (List Ver)) (a1 : Int) (w : World) (h0 : R0 w w.heap.size a0 len0 l0) (m0 : len0 ≤ maxLen) (b1 : (Lit.int .i64 a1).wf = true) :
    Calls Try.prog 8 #[.agg #[.slice a0 len0 cap0], .int .i64 a1] w fun e w' => e = .returned (.bool true) ∧ Below w.heap.size w w' := by
  unfold maxLen at m0
  have H0 := Lib.hid h0
  have hlen := h0.1
  clear h0 b1
  by_cases hbig : (1048576 : Int) < tot l0
  · have hz := szR_no hbig
    have HZ := Lib.hid hz
    clear hz
    go_enter Try.func8, Try.ntmps8
    go_wp2_with fail
    have hx := one_cell w (.slice a0 len0 cap0) 37
    have hb := new1 w (.cells #[.slice a0 len0 cap0] 37)
    have hlt : w.heap.size < (w.alloc (.cells #[.slice a0 len0 cap0] 37)).heap.size := by simp
    generalize w.alloc (.cells #[.slice a0 len0 cap0] 37) = W1 at hx hb hlt ⊢
    have HB1 : Hid (Below w.heap.size w W1) := Lib.hid hb
    have HS1 : Hid (Below w.heap.size w W1) := Lib.hid hb
    clear hb
    have bx_1 := hx
    have bxl_1 := hlt
    clear hx hlt
    refine (count_store (by omega) (H0.out.below HB1.out) HB1.out.size (by omega) (by omega)).mono ?_
    rintro e W2 ⟨rfl, hb⟩
    rw [HZ.out]
    have HB2 : Hid (Below w.heap.size w W2) := Lib.hid (HB1.out.trans (hb.mono HB1.out.size))
    have HS2 : Hid (Below W1.heap.size W1 W2) := Lib.hid hb
    clear hb
    have bx_2 := (HS2.out.cell (p := ⟨w.heap.size, 0, none⟩) bxl_1).trans bx_1
    clear bx_1
    have bxl_2 := Nat.lt_of_lt_of_le bxl_1 HS2.out.size
    clear bxl_1
    go_wp2_with fail
    go_ret
    exact ⟨rfl, HB2.out⟩
  have hz := szR_yes (left := 1048576) (ll := l0) (by omega)
  have HZ := Lib.hid hz
  clear hz
  have htot := tot_eq l0
  have HR := Lib.hid (H0.out.tight (by omega))
  have tz : decide ((1048576 : Int) - (tot l0 : Int) < 0) = false := decide_eq_false (by omega)
  obtain ⟨XS, hXS⟩ : ∃ XS, saL l0 a1 = XS := ⟨_, rfl⟩
  have HXS := Lib.hid hXS
  clear hXS
  go_enter Try.func8, Try.ntmps8
  go_wp2_with fail
  have hx := one_cell w (.slice a0 len0 cap0) 37
  have hb := new1 w (.cells #[.slice a0 len0 cap0] 37)
  have hlt : w.heap.size < (w.alloc (.cells #[.slice a0 len0 cap0] 37)).heap.size := by simp
  generalize w.alloc (.cells #[.slice a0 len0 cap0] 37) = W1 at hx hb hlt ⊢
  have HB1 : Hid (Below w.heap.size w W1) := Lib.hid hb
  have HS1 : Hid (Below w.heap.size w W1) := Lib.hid hb
  clear hb
  have bx_1 := hx
  have bxl_1 := hlt
  clear hx hlt
  refine (count_store (by omega) (H0.out.below HB1.out) HB1.out.size (by omega) (by omega)).mono ?_
  rintro e W2 ⟨rfl, hb⟩
  rw [HZ.out]
  have HB2 : Hid (Below w.heap.size w W2) := Lib.hid (HB1.out.trans (hb.mono HB1.out.size))
  have HS2 : Hid (Below W1.heap.size W1 W2) := Lib.hid hb
  clear hb
  have bx_2 := (HS2.out.cell (p := ⟨w.heap.size, 0, none⟩) bxl_1).trans bx_1
  clear bx_1
  have bxl_2 := Nat.lt_of_lt_of_le bxl_1 HS2.out.size
  clear bxl_1
  go_wp2_with fail
  refine (copy_store (by omega) (by omega) (HR.out.below HB2.out) HB2.out.size).mono ?_
  rintro e W3 ⟨Ns1, rfl, hN, hv, hb⟩
  clear hN
  have HB3 : Hid (Below w.heap.size w W3) := Lib.hid (HB2.out.trans (hb.mono HB2.out.size))
  have HS3 : Hid (Below W2.heap.size W2 W3) := Lib.hid hb
  clear hb
  have bx_3 := (HS3.out.cell (p := ⟨w.heap.size, 0, none⟩) bxl_2).trans bx_2
  clear bx_2
  have bxl_3 := Nat.lt_of_lt_of_le bxl_2 HS3.out.size
  clear bxl_2
  have s1_3 := Lib.hid hv
  clear hv
  go_wp2_with fail
  refine (Go.Proofs.Ytmohpkkfbgjboaa.sa.spec_state a1 (by omega) s1_3.out (Nat.le_refl _)).mono ?_
  rintro e W4 ⟨Aw, mw, cw, rfl, his, hb⟩
  rw [HXS.out] at his
  have HB4 : Hid (Below w.heap.size w W4) := Lib.hid (HB3.out.trans (hb.mono HB3.out.size))
  have HS4 : Hid (Below W3.heap.size W3 W4) := Lib.hid hb
  clear hb
  have bx_4 := (HS4.out.cell (p := ⟨w.heap.size, 0, none⟩) bxl_3).trans bx_3
  clear bx_3
  have bxl_4 := Nat.lt_of_lt_of_le bxl_3 HS4.out.size
  clear bxl_3
  have s1_4 := Lib.hid ((s1_3.out.below HS4.out).more HS4.out.size)
  clear s1_3
  have sw_4 := Lib.hid his
  clear his
  go_wp2_with fail
  have hbxP := bxl_4
  have SWpre := sw_4
  refine (copy_storeR (by omega) (by omega) (HR.out.below HB4.out) HB4.out.size).mono ?_
  rintro e W5 ⟨Nx, rfl, hNx, hrr, hb⟩
  have HB5 : Hid (Below w.heap.size w W5) := Lib.hid (HB4.out.trans (hb.mono HB4.out.size))
  have HS5 : Hid (Below W4.heap.size W4 W5) := Lib.hid hb
  clear hb
  have bx_5 := (HS5.out.cell (p := ⟨w.heap.size, 0, none⟩) bxl_4).trans bx_4
  clear bx_4
  have bxl_5 := Nat.lt_of_lt_of_le bxl_4 HS5.out.size
  clear bxl_4
  have sw_5 := Lib.hid ((sw_4.out.below HS5.out).more HS5.out.size)
  clear sw_4
  have RX_5 : Hid (Go.Proofs.Ytmohpkkfbgjboaa.marks.MS W5 Nx len0 l0 1 0) := Lib.hid (Go.Proofs.Ytmohpkkfbgjboaa.marks.MS.of_rr hrr hlen 1)
  have xx_5 := Lib.hid (hrr.rs hlen (by omega))
  clear hrr
  have SW0 : Hid (Is W4 W4.heap.size Aw mw XS) := SWpre
  have hbxN : w.heap.size < Nx := Nat.lt_of_lt_of_le hbxP hNx
  have hNx0 : w.heap.size ≤ Nx := Nat.le_trans HB4.out.size hNx
  go_wp2_with fail
  have hx := one_cell W5 (.slice (some ⟨Nx, 0, none⟩) len0 len0) 42
  have hb := new1 W5 (.cells #[.slice (some ⟨Nx, 0, none⟩) len0 len0] 42)
  have hlt : W5.heap.size < (W5.alloc (.cells #[.slice (some ⟨Nx, 0, none⟩) len0 len0] 42)).heap.size := by simp
  generalize W5.alloc (.cells #[.slice (some ⟨Nx, 0, none⟩) len0 len0] 42) = W6 at hx hb hlt ⊢
  have HB6 : Hid (Below w.heap.size w W6) := Lib.hid (HB5.out.trans (hb.mono HB5.out.size))
  have HS6 : Hid (Below W5.heap.size W5 W6) := Lib.hid hb
  clear hb
  have bx_6 := (HS6.out.cell (p := ⟨w.heap.size, 0, none⟩) bxl_5).trans bx_5
  clear bx_5
  have bxl_6 := Nat.lt_of_lt_of_le bxl_5 HS6.out.size
  clear bxl_5
  have sw_6 := Lib.hid ((sw_5.out.below HS6.out).more HS6.out.size)
  clear sw_5
  have xx_6 := Lib.hid ((xx_5.out.below HS6.out).more HS6.out.size)
  clear xx_5
  have by_6 := hx
  have byl_6 := hlt
  clear hx hlt
  refine (Go.Proofs.Ytmohpkkfbgjboaa.sa.impl_state a1 (by omega) xx_6.out (Nat.le_refl _)).mono ?_
  rintro e W7 har
  rw [HXS.out] at har
  obtain ⟨Ag, ng, cg, rfl, hg, hb⟩ := ans_g har
  clear har
  have hwlt := bxl_6
  have HB7 : Hid (Below w.heap.size w W7) := Lib.hid (HB6.out.trans (hb.mono HB6.out.size))
  have HS7 : Hid (Below W6.heap.size W6 W7) := Lib.hid hb
  clear hb
  have bx_7 := (HS7.out.cell (p := ⟨w.heap.size, 0, none⟩) bxl_6).trans bx_6
  clear bx_6
  have bxl_7 := Nat.lt_of_lt_of_le bxl_6 HS7.out.size
  clear bxl_6
  have by_7 := (HS7.out.cell (p := ⟨W5.heap.size, 0, none⟩) byl_6).trans by_6
  clear by_6
  have byl_7 := Nat.lt_of_lt_of_le byl_6 HS7.out.size
  clear byl_6
  have sw_7 := Lib.hid ((sw_6.out.below HS7.out).more HS7.out.size)
  clear sw_6
  have xx_7 := Lib.hid ((xx_6.out.below HS7.out).more HS7.out.size)
  clear xx_6
  have GG_7 := Lib.hid hg
  clear hg
  obtain rfl : mw = ng := by rw [← sw_7.out.1, ← GG_7.out.is.1]
  have hng : mw ≤ 6 := by rcases GG_7.out.own with ⟨h, _⟩ | ⟨_, h, _⟩ <;> omega
  go_wp2_with fail
  refine (Go.Proofs.Ytmohpkkfbgjboaa.ints.same_ints (by omega) GG_7.out.is sw_7.out (Nat.le_refl _)).mono ?_
  rintro e W8 ⟨rfl, hb⟩
  have HB8 : Hid (Below w.heap.size w W8) := Lib.hid (HB7.out.trans (hb.mono HB7.out.size))
  have HS8 : Hid (Below W7.heap.size W7 W8) := Lib.hid hb
  clear hb
  have bx_8 := (HS8.out.cell (p := ⟨w.heap.size, 0, none⟩) bxl_7).trans bx_7
  clear bx_7
  have bxl_8 := Nat.lt_of_lt_of_le bxl_7 HS8.out.size
  clear bxl_7
  have by_8 := (HS8.out.cell (p := ⟨W5.heap.size, 0, none⟩) byl_7).trans by_7
  clear by_7
  have byl_8 := Nat.lt_of_lt_of_le byl_7 HS8.out.size
  clear byl_7
  have sw_8 := Lib.hid ((sw_7.out.below HS8.out).more HS8.out.size)
  clear sw_7
  have xx_8 := Lib.hid ((xx_7.out.below HS8.out).more HS8.out.size)
  clear xx_7
  have GG_8 := Lib.hid (GG_7.out.below HS8.out)
  clear GG_7
  go_wp2_with fail
  go_region_held3 (fun w' => w'.cell? ⟨w.heap.size, 0, none⟩ = some (.slice a0 len0 cap0) ∧ w'.cell? ⟨W5.heap.size, 0, none⟩ = some (.slice (some ⟨Nx, 0, none⟩) len0 len0)) (go_keep) (first | (go_at_call 21; refine (copy_store (w := W8.drew) (by omega) (by omega) (HR.out.below HB8.out.drew) HB8.out.size).mono ?_; rintro e Wa ⟨Na, rfl, hN, hva, hba⟩; replace hba := ((Below.refl W8.heap.size W8).drew).trans hba; have bxa := (hba.cell (p := ⟨w.heap.size, 0, none⟩) bxl_8).trans bx_8; have bya := (hba.cell (p := ⟨W5.heap.size, 0, none⟩) byl_8).trans by_8) | (go_at_call 23; refine (same_store (by omega) ((xx_8.out.below hba).more hba.size) hva (Nat.le_refl _)).mono ?_; rintro e W9 ⟨rfl, hbb⟩; have bxb := (hbb.cell (p := ⟨w.heap.size, 0, none⟩) (Nat.lt_of_lt_of_le bxl_8 hba.size)).trans bxa; have byb := (hbb.cell (p := ⟨W5.heap.size, 0, none⟩) (Nat.lt_of_lt_of_le byl_8 hba.size)).trans bya))
  have hb := hba.trans (hbb.mono hba.size)
  clear hva hN hba hbb bxa bxb bya byb
  have HB9 : Hid (Below w.heap.size w W9) := Lib.hid (HB8.out.trans (hb.mono HB8.out.size))
  have HS9 : Hid (Below W8.heap.size W8 W9) := Lib.hid hb
  clear hb
  have bx_9 := (HS9.out.cell (p := ⟨w.heap.size, 0, none⟩) bxl_8).trans bx_8
  clear bx_8
  have bxl_9 := Nat.lt_of_lt_of_le bxl_8 HS9.out.size
  clear bxl_8
  have by_9 := (HS9.out.cell (p := ⟨W5.heap.size, 0, none⟩) byl_8).trans by_8
  clear by_8
  have byl_9 := Nat.lt_of_lt_of_le byl_8 HS9.out.size
  clear byl_8
  have sw_9 := Lib.hid ((sw_8.out.below HS9.out).more HS9.out.size)
  clear sw_8
  have xx_9 := Lib.hid ((xx_8.out.below HS9.out).more HS9.out.size)
  clear xx_8
  have GG_9 := Lib.hid (GG_8.out.below HS9.out)
  clear GG_8
  have hbx : Below W5.heap.size W5 W9 := (((HS6.out).trans (HS7.out.mono (HS6.out.size))).trans (HS8.out.mono (Nat.le_trans (HS6.out.size) HS7.out.size))).trans (HS9.out.mono (Nat.le_trans (Nat.le_trans (HS6.out.size) HS7.out.size) HS8.out.size))
  have SWN : Hid (∃ Bw, Bw ≤ Nx ∧ Is W9 Bw Aw mw XS) := Lib.hid ⟨W4.heap.size, hNx, SW0.out.below (HS5.out.trans (hbx.mono HS5.out.size))⟩
  go_wp2_with fail
  refine (Go.Proofs.Ytmohpkkfbgjboaa.marks.mark_store (by omega) (by omega) hlen (by omega) (by omega) RX_5.out hbx).mono ?_
  rintro e W10 ⟨rfl, _, hm1, hm2, hm3, hm4, hm5⟩
  have hmid : Mid Nx W5.heap.size W9 W10 := ⟨hm2, hm3, hm4, hm1, hm5⟩
  clear hm1 hm2 hm3 hm4 hm5
  have HB10 : Hid (Below w.heap.size w W10) := Lib.hid (HB9.out.trans (hmid.below hNx0 HB9.out.size))
  have hNk : Nx ≤ W9.heap.size := by have := RX_5.out.lt; have := hbx.size; omega
  have GG_10 := Lib.hid (hmid.g GG_9.out (HS6.out.size))
  clear GG_9
  obtain ⟨Bw, hBw, hswn⟩ := SWN.out
  have sz_10 := Lib.hid ((hswn.below (hmid.below hBw (Nat.le_trans hBw hNk))).more (show Bw ≤ W10.heap.size from Nat.le_trans hBw (Nat.le_trans hNk hmid.size)))
  have bx_10 := ((hmid.below (B := Nx) (Nat.le_refl _) hNk).cell (p := ⟨w.heap.size, 0, none⟩) (by have h1 := hbxN; simp; omega)).trans bx_9
  have bxl_10 : w.heap.size < W10.heap.size := by have := bxl_9; have := hmid.size; omega
  have hBwl : Bw ≤ W6.heap.size := Nat.le_trans hBw (Nat.le_trans (Nat.le_of_lt RX_5.out.lt) (HS6.out.size))
  have SZB : Hid (Is W10 Bw Aw mw XS) := Lib.hid (hswn.below (hmid.below hBw (Nat.le_trans hBw hNk)))
  have hBk : Bw ≤ W10.heap.size := Nat.le_trans hBw (Nat.le_trans hNk hmid.size)
  clear hswn hmid hbx bx_9 bxl_9 by_9 byl_9 sw_9 xx_9
  have tk : decide ((1 : Int) + ((cnt l0 * 5 : Nat) : Int) < 0) = false := decide_eq_false (by omega)
  go_wp2_with fail
  refine (Go.Proofs.Ytmohpkkfbgjboaa.ints.same_ints (by omega) GG_10.out.is sz_10.out (Nat.le_refl _)).mono ?_
  rintro e W11 ⟨rfl, hb⟩
  have HB11 : Hid (Below w.heap.size w W11) := Lib.hid (HB10.out.trans (hb.mono HB10.out.size))
  have HS11 : Hid (Below W10.heap.size W10 W11) := Lib.hid hb
  clear hb
  have bx_11 := (HS11.out.cell (p := ⟨w.heap.size, 0, none⟩) bxl_10).trans bx_10
  clear bx_10
  have bxl_11 := Nat.lt_of_lt_of_le bxl_10 HS11.out.size
  clear bxl_10
  have sz_11 := Lib.hid ((sz_10.out.below HS11.out).more HS11.out.size)
  clear sz_10
  have GG_11 := Lib.hid (GG_10.out.below HS11.out)
  clear GG_10
  go_wp2_with fail
  have hwk : w.heap.size ≤ W6.heap.size := HB6.out.size
  refine (mark_g GG_11.out).mono ?_
  rintro e W12 ⟨rfl, hgm, hbg⟩
  have SZ2 := Lib.hid ((SZB.out.below (HS11.out.mono hBk)).below (hbg.mono hBwl))
  have HB12 : Hid (Below w.heap.size w W12) := Lib.hid (HB11.out.trans (hbg.mono hwk))
  have bx_12 := (hbg.cell (p := ⟨w.heap.size, 0, none⟩) (by simp; omega)).trans bx_11
  have bxl_12 : w.heap.size < W12.heap.size := by have := bxl_11; have := hbg.size; omega
  have sz_12 := Lib.hid (SZ2.out.more (show Bw ≤ W12.heap.size by have := hbg.size; have := HS11.out.size; omega))
  have GM_12 := Lib.hid hgm
  clear hgm hbg GG_11 sz_11 bx_11 bxl_11
  have tq : decide ((1 : Int) + (mw : Int) < 0) = false := decide_eq_false (by omega)
  go_wp2_with fail
  refine (held_g GM_12.out).mono ?_
  rintro e V ⟨rfl, rfl⟩
  go_wp2_with fail
  refine (copy_store (by omega) (by omega) (HR.out.below HB12.out) HB12.out.size).mono ?_
  rintro e W13 ⟨Ns5, rfl, hN, hv, hb⟩
  clear hN
  have HB13 : Hid (Below w.heap.size w W13) := Lib.hid (HB12.out.trans (hb.mono HB12.out.size))
  have HS13 : Hid (Below W12.heap.size W12 W13) := Lib.hid hb
  clear hb
  have bx_13 := (HS13.out.cell (p := ⟨w.heap.size, 0, none⟩) bxl_12).trans bx_12
  clear bx_12
  have bxl_13 := Nat.lt_of_lt_of_le bxl_12 HS13.out.size
  clear bxl_12
  have sz_13 := Lib.hid ((sz_12.out.below HS13.out).more HS13.out.size)
  clear sz_12
  have s5_13 := Lib.hid hv
  clear hv
  have GM_13 := Lib.hid (GM_12.out.below HS13.out)
  go_wp2_with fail
  refine (Go.Proofs.Ytmohpkkfbgjboaa.sa.impl_state a1 (by omega) s5_13.out (Nat.le_refl _)).mono ?_
  rintro e W14 har
  rw [HXS.out] at har
  obtain ⟨Ah, nh, ch, rfl, hh, hb⟩ := ans_g har
  clear har
  have HB14 : Hid (Below w.heap.size w W14) := Lib.hid (HB13.out.trans (hb.mono HB13.out.size))
  have HS14 : Hid (Below W13.heap.size W13 W14) := Lib.hid hb
  clear hb
  have bx_14 := (HS14.out.cell (p := ⟨w.heap.size, 0, none⟩) bxl_13).trans bx_13
  clear bx_13
  have bxl_14 := Nat.lt_of_lt_of_le bxl_13 HS14.out.size
  clear bxl_13
  have sz_14 := Lib.hid ((sz_13.out.below HS14.out).more HS14.out.size)
  clear sz_13
  have s5_14 := Lib.hid ((s5_13.out.below HS14.out).more HS14.out.size)
  clear s5_13
  have GM_14 := Lib.hid (GM_13.out.below HS14.out)
  obtain rfl : mw = nh := by rw [← sz_14.out.1, ← hh.is.1]
  have HH := Lib.hid hh
  clear hh
  go_wp2_with fail
  refine (Go.Proofs.Ytmohpkkfbgjboaa.ints.same_ints (by omega) HH.out.is sz_14.out (Nat.le_refl _)).mono ?_
  rintro e W15 ⟨rfl, hb⟩
  have HB15 : Hid (Below w.heap.size w W15) := Lib.hid (HB14.out.trans (hb.mono HB14.out.size))
  have HS15 : Hid (Below W14.heap.size W14 W15) := Lib.hid hb
  clear hb
  have bx_15 := (HS15.out.cell (p := ⟨w.heap.size, 0, none⟩) bxl_14).trans bx_14
  clear bx_14
  have bxl_15 := Nat.lt_of_lt_of_le bxl_14 HS15.out.size
  clear bxl_14
  have sz_15 := Lib.hid ((sz_14.out.below HS15.out).more HS15.out.size)
  clear sz_14
  have s5_15 := Lib.hid ((s5_14.out.below HS15.out).more HS15.out.size)
  clear s5_14
  have GM_15 := Lib.hid (GM_14.out.below HS15.out)
  go_wp2_with fail
  refine (held_g GM_15.out).mono ?_
  rintro e V ⟨rfl, rfl⟩
  go_wp2_with fail
  go_ret
  exact ⟨rfl, HB15.out⟩
/-! ### THE ROW's STEP -/
set_option maxRecDepth 100000 in
theorem lifted (os : Os) (started : os.Started) (H : Type) (enc : TypeId × Value → H) :
    ReturnsInHanded {} Try.checked os 8 .any (Rows.fnExactStateAtSpec.pre6 enc Try.prog Try.f8 Rows.fnExactStateAtRow.domain false) (Rows.fnExactStateAtSpec.post enc Try.prog Try.f8 false true false false) := by
  refine returnsInHanded_of_change (C := Try.checked) own started (by kernel_rfl) Try.func8
    (ChangeSpec.witness6 (enc := enc) (C := Try.checked) false ⟨#[], #[.agg #[.slice none 0 0], .int .i64 0], []⟩ 8 (by kernel_rfl) (by kernel_rfl) (by kernel_rfl) (by kernel_rfl)) ?_
  intro W base args ds gs before hval0 hW hcnd _
  have hval : ∀ (j : Nat) t v, Try.f8.params[j]? = some t → args[j]? = some v → Value.okWide Try.prog W .any base t v := hval0
  have hW' := hW
  obtain ⟨p, q, hA0, hV, rfl, hfz, hnd⟩ := hW
  have hA : DataW.TrodAll enc Try.prog W 0 (fun _ => true) true Try.f8.params.toList args.toList ds p := hA0
  rw [Try.params8] at hA hval
  obtain ⟨v0, vs0, d0, ds0, p0, q0, hargs, rfl, rfl, h0, r0⟩ := trodAll_cons hA
  obtain ⟨v1, vs1, d1, ds1, p1, q1, rfl, rfl, rfl, h1, r1⟩ := trodAll_cons r0
  obtain ⟨rfl, rfl, rfl⟩ := trodAll_nil r1
  obtain rfl : args = #[v0, v1] := by cases args; simp_all
  obtain ⟨rfl, rfl⟩ := trodVars_none hV
  have k0 := h0
  have lt0 : ∀ x ∈ p0, x.block < W.heap.size := by obtain ⟨m, hm⟩ := k0; exact DataW.trod_lt m _ _ _ hm
  obtain ⟨a0, len0, cap0, l0, rfl, w0, m0⟩ := open_store (hval 0 37 v0 rfl rfl) h0
  obtain ⟨a1, rfl, rfl, rfl, w1⟩ := open_int Try.underlying3 (hval 1 3 v1 rfl rfl) h1
  clear hA0 hval0
  refine (walk a0 len0 cap0 l0 a1 W w0 m0 w1).mono fun e W' ⟨he, bel⟩ => ?_
  subst he
  exact ⟨_, rfl, _, _, _, [], _, [], hW', trodAll_mk1 (shut_bool Try.underlying4 _), (trodAll_cons_mk (Below.trod laidOut (by kernel_rfl) (of_decide_eq_true (by kernel_rfl)) k0 bel lt0) (trodAll_cons_mk (shut_int Try.underlying3 w1) trodAll_mk0)), rfl, bel.frame _, fun h => by cases h⟩

theorem over : Rows.fnExactStateAtRow.holds Try.pinned (OpenSpec.ofChange Rows.fnExactStateAtSpec) :=
  OpenClaim.holds_of_wide 8 Try.f8 rfl rfl rfl rfl rfl rfl rfl ⟨rfl, rfl, rfl, rfl, rfl⟩ rfl rfl rfl rfl rfl (by kernel_rfl) Try.func8 (by kernel_rfl)
    (of_decide_eq_true (by kernel_rfl)) (by unfold Func.isWrapper; first | (rw [if_pos (by decide +kernel)]; kernel_rfl) | (rw [if_neg (by decide +kernel)]; exact ⟨rfl, rfl⟩))
    (fun os started H enc _ => lifted os started H enc)

/-- THE STATEMENT -/
theorem proved : Rows.FnExactStateAtSaid := over
#print axioms proved
end Go.Proofs.Ytmohpkkfbgjboaa.fnExactStateAt
