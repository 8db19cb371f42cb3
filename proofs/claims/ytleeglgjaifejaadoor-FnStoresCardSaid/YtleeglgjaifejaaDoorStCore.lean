/- The law on stores, its calls one after the other: it answers true at every code of at most 1048576 bytes; nothing that was there is written. -/
import Derived.Test.YtleeglgjaifejaaDoorLawS
import Derived.Test.YtleeglgjaifejaaDoorDrawS
import Derived.Test.YtleeglgjaifejaaDoorSa
import Derived.Test.YtleeglgjaifejaaDoorCnt
import Derived.Test.YtleeglgjaifejaaDoorFs
import Derived.Test.YtleeglgjaifejaaDoorEq
import Derived.WalkKit
import Derived.ProofKit
import Derived.Below
import Derived.Lib.Hide
import Derived.LoopTactic
import Derived.Deep.QuietTactic
import Derived.Deep.RegionHeld3
import Derived.BigQuiet
import Derived.Outline
import Derived.IntWalk
import Derived.Laws.StructEq
namespace Go.Proofs.YtleeglgjaifejaaDoor.stcore
open Go.ChangeShapes Go.WideShapes Go.ChangeAt Go.RowKit
open Go.Proofs.YtleeglgjaifejaaDoor.vers Go.Proofs.YtleeglgjaifejaaDoor.sl Go.Proofs.YtleeglgjaifejaaDoor.ch Go.Proofs.YtleeglgjaifejaaDoor.st Go.Proofs.YtleeglgjaifejaaDoor.val Go.Proofs.YtleeglgjaifejaaDoor.rd Go.Proofs.YtleeglgjaifejaaDoor.last Go.Proofs.YtleeglgjaifejaaDoor.cnts Go.Proofs.YtleeglgjaifejaaDoor.ints Go.Proofs.YtleeglgjaifejaaDoor.cur Go.Proofs.YtleeglgjaifejaaDoor.draws Go.Proofs.YtleeglgjaifejaaDoor.laws
open Go.Proofs.YtleeglgjaifejaaDoor.sa (saL saV RdOk saL_yes saL_not saV_len saV_get Ans AnsR spec_state impl_state)
open Go.Proofs.YtleeglgjaifejaaDoor.fst (Pow fsT spec_fstate impl_fstate)
open Go.Proofs.YtleeglgjaifejaaDoor.new (ns ns_len ns_cnt impl_new)
open Go.Proofs.YtleeglgjaifejaaDoor.tabs (powTab_below)
open Go.Proofs.YtleeglgjaifejaaDoor.eqs (guard_ver neq_no)
set_option linter.unusedVariables false
set_option linter.unusedSimpArgs false
/-! the law's own comparison of two lists of integers -/
set_option maxRecDepth 100000 in
set_option maxHeartbeats 800000 in
theorem law_ints {w : World} {B n c c2 : Nat} {A A2 : Option Addr} {xs : List Int} (hn : n ≤ 140737488355328) (h1 : Is w B A n xs) (h2 : Is w B A2 n xs) (hB : B ≤ w.heap.size) :
    Calls Tryd.prog 8 #[.slice A n c, .slice A2 n c2] w fun e w' => e = .returned (.bool true) ∧ Below w.heap.size w w' := by
  have H1 := Lib.hid h1
  have H2 := Lib.hid h2
  clear h1 h2
  go_enter Tryd.func8, Tryd.ntmps8
  go_wp2
  go_loopw [5] (fun i wr => ∃ k : Nat, k ≤ n ∧ i = .int .i64 k ∧ Below w.heap.size w wr) (fun i _ => n - (intOf i).toNat)
  case atStart => exact ⟨0, by omega, rfl, Below.refl _ _⟩
  case round =>
    obtain ⟨k, hk, rfl, hb⟩ := hrel
    by_cases hlt : k < n
    · obtain ⟨b, o, x, rfl, hbB, hx, hc⟩ := (H1.out.below (below_le hb hB)).at_ hlt
      obtain ⟨b', o', x', rfl, hbB', hx', hc'⟩ := (H2.out.below (below_le hb hB)).at_ hlt
      obtain rfl : x = x' := by rw [hx] at hx'; exact Option.some.inj hx'
      have HB := Lib.hid hb
      have t : (x == x) = true := by simp
      clear hb hx hx'
      go_wp2_with fail
      try (go_quiet (fail))
      try (go_wp2_with fail)
      go_roundw
      case rel => exact ⟨k + 1, by omega, by go_num, by first | exact HB.out | exact bdrewN HB.out _⟩
      case measure => simp [intOf]; omega
    · have t : decide ((k : Int) < (n : Int)) = false := decide_eq_false (by omega)
      go_wp2
      go_ret
      exact ⟨rfl, hb⟩
theorem ans_of {xs : List Int} {w w' : World} {e : Ending} (h : AnsR xs w e w') : Ans xs w e w' := by
  rcases h with ⟨h1, rfl, h3⟩ | ⟨g, h1, _, _, h4, h5⟩
  · exact ⟨none, 0, 0, h1, Is.nil_ _ _ _, h3⟩
  · exact ⟨_, 6, 6, h1, h4, h5⟩
theorem ans_len {xs : List Int} {w w' : World} {e : Ending} {m : Nat} (hl : xs.length = m) (h : Ans xs w e w') : ∃ A' c', e = .returned (.slice A' m c') ∧ Is w' w'.heap.size A' m xs ∧ Below w.heap.size w w' := by
  obtain ⟨A', m', c', he, hi, hb⟩ := h
  obtain rfl : m' = m := by rw [← hi.1, hl]
  exact ⟨A', c', he, hi, hb⟩
/-- a key that has a value in the state can be read -/
theorem sa_at {ll : List (List Ver)} {s : Int} {k : Nat} (h : k < (saL ll s).length) : (saL ll s)[k]? = some (raV ll (k : Nat) s).b ∧ raB ll (k : Nat) s = true := by
  by_cases hr : RdOk ll s 6
  · rw [saL_yes hr] at h ⊢
    rw [saV_len] at h
    exact ⟨saV_get h, hr k h⟩
  · rw [saL_not hr] at h
    simp at h
theorem sa_len (ll : List (List Ver)) (s : Int) : (saL ll s).length ≤ 6 := by
  by_cases hr : RdOk ll s 6
  · rw [saL_yes hr, saV_len]; exact Nat.le_refl _
  · rw [saL_not hr]; simp

set_option maxRecDepth 100000 in
set_option maxHeartbeats 6400000 in
theorem core (a : Option Addr) (len cap : Nat) (w : World) (hlen : len ≤ 1048576) (hcode : CodeAt w w.heap.size a len) (hE : Pow w) :
    Calls Tryd.prog 3 #[.slice a len cap] w fun e w' => e = .returned (.bool true) ∧ Below w.heap.size w w' := by
  have HE := Lib.hid hE
  have HBIG := Lib.hid (big_no a len cap w (by omega))
  have HDRAW := Lib.hid (draw_stateat a len cap w hlen hcode)
  clear hcode hE
  go_enter Tryd.func3, Tryd.ntmps3
  go_wp2_with fail
  refine HBIG.out.mono ?_
  rintro e W0 ⟨rfl, rfl⟩
  go_wp2_with fail
  refine HDRAW.out.mono ?_
  rintro e W1 ⟨A, n, c, ll, st, rfl, hn, hsh, hrs, hb⟩
  have hcn : cnt ll ≤ 30 := by have := cnt_short hsh; have := hrs.1; omega
  have hn9 : n ≤ 140737488355328 := by omega
  have hcn9 : cnt ll ≤ 4611686018427387904 := by omega
  have RS1 := Lib.hid hrs
  have HB1 := Lib.hid hb
  clear hrs hb HBIG HDRAW hsh
  have x2 := one_cell W1 (.slice A n c) 26
  have hb2 := new1 W1 (.cells #[.slice A n c] 26)
  have hs2 : (W1.alloc (.cells #[.slice A n c] 26)).heap.size = W1.heap.size + 1 := by simp
  have HB2 := Lib.hid (HB1.out.trans (hb2.mono HB1.out.size))
  have RS2 := Lib.hid ((RS1.out.below hb2).more (show W1.heap.size ≤ (W1.alloc (.cells #[.slice A n c] 26)).heap.size by omega))
  clear hb2
  go_wp2_with fail
  obtain ⟨M, hM⟩ : ∃ M, M = W1.heap.size := ⟨_, rfl⟩
  simp only [← hM] at x2 hs2 ⊢
  generalize W1.alloc (.cells #[.slice A n c] 26) = W2 at x2 HB2 RS2 hs2 ⊢
  have hMw : w.heap.size ≤ M := by have := HB1.out.size; omega
  clear hM RS1 HB1
  refine (impl_state st hn9 RS2.out (Nat.le_refl _)).mono ?_
  intro e W3 hans
  obtain ⟨A3, m, c3, rfl, hIs, hb⟩ := ans_of hans
  have hml : (saL ll st).length = m := hIs.1
  have hm6 : m ≤ 6 := by have := sa_len ll st; omega
  have hm9 : m ≤ 140737488355328 := by omega
  have hm1 : m ≤ 1048576 := by omega
  have IS3 := Lib.hid hIs
  have x3 := (hb.cell (p := ⟨M, 0, none⟩) (show M < W2.heap.size by omega)).trans x2
  have hM3 : M < W3.heap.size := by have := hb.size; omega
  have RS3 := Lib.hid ((RS2.out.below hb).more hb.size)
  have HB3 : Hid (Below w.heap.size w W3) := Lib.hid (HB2.out.trans (hb.mono HB2.out.size))
  clear hans hIs hb x2 RS2 HB2
  obtain ⟨xs, hxs⟩ : ∃ xs, xs = saL ll st := ⟨_, rfl⟩
  rw [← hxs] at hml
  have HXS := Lib.hid hxs
  have IS3 : Hid (Is W3 W3.heap.size A3 m xs) := Lib.hid (by rw [hxs]; exact IS3.out)
  obtain ⟨ls, hls⟩ : ∃ ls, ls = lstS ll := ⟨_, rfl⟩
  have HLS := Lib.hid hls
  obtain ⟨sb, hsb⟩ : ∃ sb, sb = stB ll := ⟨_, rfl⟩
  have HSB := Lib.hid hsb
  obtain ⟨ft, hft⟩ : ∃ ft, ft = fsT xs := ⟨_, rfl⟩
  have HFT := Lib.hid hft
  obtain ⟨cn, hcnn⟩ : ∃ cn : Int, cn = (cnt ll : Int) := ⟨_, rfl⟩
  have HCN := Lib.hid hcnn
  have CS := Lib.hid (fun W (h : Rs W W.heap.size A n ll) => by have h := spec_state (c := c) st hn9 h (Nat.le_refl _); rw [← hxs] at h; exact h.mono fun e w' hh => ans_len hml hh)
  have CIL := Lib.hid (fun W (h : Rs W W.heap.size A n ll) => by have h := impl_last (c := c) hn9 h (Nat.le_refl _); rw [← hls] at h; exact h)
  have CSL := Lib.hid (fun W (h : Rs W W.heap.size A n ll) => by have h := spec_last (c := c) hn9 h (Nat.le_refl _); rw [← hls] at h; exact h)
  have CIC := Lib.hid (fun W (h : Rs W W.heap.size A n ll) => by have h := impl_count (c := c) hn9 hcn9 h (Nat.le_refl _); rw [← hcnn] at h; exact h)
  have CSC := Lib.hid (fun W (h : Rs W W.heap.size A n ll) => by have h := spec_count (c := c) hn9 hcn9 h (Nat.le_refl _); rw [← hcnn] at h; exact h)
  have CIV := Lib.hid (fun W (h : Rs W W.heap.size A n ll) => by have h := impl_store (c := c) hn9 h (Nat.le_refl _); rw [← hsb] at h; exact h)
  have CSV := Lib.hid (fun W (h : Rs W W.heap.size A n ll) => by have h := spec_store (c := c) hn9 h (Nat.le_refl _); rw [← hsb] at h; exact h)
  have CIF := Lib.hid (fun W (h : Is W W.heap.size A3 m xs) (hp : Pow W) => by have h := impl_fstate (c := c3) hm1 h (Nat.le_refl _) hp; rw [← hft] at h; exact h)
  have CSF := Lib.hid (fun W (h : Is W W.heap.size A3 m xs) => by have h := spec_fstate (c := c3) hm1 h (Nat.le_refl _); rw [← hft] at h; exact h)
  clear hxs hls hsb hft hcnn
  go_wp2_with fail

  go_region_held3 (fun w' => w'.cell? ⟨M, 0, none⟩ = some (.slice A n c)) (first | assumption | go_keep) (first | (go_at_call 9; refine (CS.out W3.drew RS3.out).mono ?_; rintro e W4 ⟨A4, c4, rfl, hIs, hb⟩; have IA : Hid (Is W4 W4.heap.size A4 m xs) := Lib.hid hIs; have RS4 : Hid (Rs W4 W4.heap.size A n ll) := Lib.hid (((show Rs W3.drew W3.drew.heap.size A n ll from RS3.out).below hb).more hb.size); have IS4 : Hid (Is W4 W4.heap.size A3 m xs) := Lib.hid (((show Is W3.drew W3.drew.heap.size A3 m xs from IS3.out).below hb).more hb.size); have HB4 : Hid (Below w.heap.size w W4) := Lib.hid (HB3.out.drew.trans (hb.mono HB3.out.size)); have x4 := (hb.cell (p := ⟨M, 0, none⟩) hM3).trans x3; have hM4 : M < W4.heap.size := Nat.lt_of_lt_of_le hM3 hb.size; clear hb hIs) | (go_at_call 8; refine (law_ints hm9 IS4.out IA.out (Nat.le_refl _)).mono ?_; rintro e W5 ⟨rfl, hb⟩; have RS5 : Hid (Rs W5 W5.heap.size A n ll) := Lib.hid ((RS4.out.below hb).more hb.size); have IS5 : Hid (Is W5 W5.heap.size A3 m xs) := Lib.hid ((IS4.out.below hb).more hb.size); have HB5 : Hid (Below w.heap.size w W5) := Lib.hid (HB4.out.trans (hb.mono HB4.out.size)); have x5 := (hb.cell (p := ⟨M, 0, none⟩) hM4).trans x4; have hM5 : M < W5.heap.size := Nat.lt_of_lt_of_le hM4 hb.size; clear hb) | (go_at_call 10; refine (CIL.out W5 RS5.out).mono ?_; rintro e W6 ⟨rfl, hb⟩; have RS6 : Hid (Rs W6 W6.heap.size A n ll) := Lib.hid ((RS5.out.below hb).more hb.size); have IS6 : Hid (Is W6 W6.heap.size A3 m xs) := Lib.hid ((IS5.out.below hb).more hb.size); have HB6 : Hid (Below w.heap.size w W6) := Lib.hid (HB5.out.trans (hb.mono HB5.out.size)); have x6 := (hb.cell (p := ⟨M, 0, none⟩) hM5).trans x5; have hM6 : M < W6.heap.size := Nat.lt_of_lt_of_le hM5 hb.size; clear hb) | (go_at_call 11; refine (CSL.out W6 RS6.out).mono ?_; rintro e W7 ⟨rfl, hb⟩; have RS7 : Hid (Rs W7 W7.heap.size A n ll) := Lib.hid ((RS6.out.below hb).more hb.size); have IS7 : Hid (Is W7 W7.heap.size A3 m xs) := Lib.hid ((IS6.out.below hb).more hb.size); have HB7 : Hid (Below w.heap.size w W7) := Lib.hid (HB6.out.trans (hb.mono HB6.out.size)); have x7 := (hb.cell (p := ⟨M, 0, none⟩) hM6).trans x6; have hM7 : M < W7.heap.size := Nat.lt_of_lt_of_le hM6 hb.size; clear hb) | (go_at_call 12; refine (CIC.out W7 RS7.out).mono ?_; rintro e W8 ⟨rfl, hb⟩; have RS8 : Hid (Rs W8 W8.heap.size A n ll) := Lib.hid ((RS7.out.below hb).more hb.size); have IS8 : Hid (Is W8 W8.heap.size A3 m xs) := Lib.hid ((IS7.out.below hb).more hb.size); have HB8 : Hid (Below w.heap.size w W8) := Lib.hid (HB7.out.trans (hb.mono HB7.out.size)); have x8 := (hb.cell (p := ⟨M, 0, none⟩) hM7).trans x7; have hM8 : M < W8.heap.size := Nat.lt_of_lt_of_le hM7 hb.size; clear hb) | (go_at_call 13; refine (CSC.out W8 RS8.out).mono ?_; rintro e W9 ⟨rfl, hb⟩; have RS9 : Hid (Rs W9 W9.heap.size A n ll) := Lib.hid ((RS8.out.below hb).more hb.size); have IS9 : Hid (Is W9 W9.heap.size A3 m xs) := Lib.hid ((IS8.out.below hb).more hb.size); have HB9 : Hid (Below w.heap.size w W9) := Lib.hid (HB8.out.trans (hb.mono HB8.out.size)); have x9 := (hb.cell (p := ⟨M, 0, none⟩) hM8).trans x8; have hM9 : M < W9.heap.size := Nat.lt_of_lt_of_le hM8 hb.size; clear hb) | (go_at_call 14; refine (CIV.out W9 RS9.out).mono ?_; rintro e W10 ⟨rfl, hb⟩; have RS10 : Hid (Rs W10 W10.heap.size A n ll) := Lib.hid ((RS9.out.below hb).more hb.size); have IS10 : Hid (Is W10 W10.heap.size A3 m xs) := Lib.hid ((IS9.out.below hb).more hb.size); have HB10 : Hid (Below w.heap.size w W10) := Lib.hid (HB9.out.trans (hb.mono HB9.out.size)); have x10 := (hb.cell (p := ⟨M, 0, none⟩) hM9).trans x9; have hM10 : M < W10.heap.size := Nat.lt_of_lt_of_le hM9 hb.size; clear hb) | (go_at_call 15; refine (CSV.out W10 RS10.out).mono ?_; rintro e W11 ⟨rfl, hb⟩; have RS11 : Hid (Rs W11 W11.heap.size A n ll) := Lib.hid ((RS10.out.below hb).more hb.size); have IS11 : Hid (Is W11 W11.heap.size A3 m xs) := Lib.hid ((IS10.out.below hb).more hb.size); have HB11 : Hid (Below w.heap.size w W11) := Lib.hid (HB10.out.trans (hb.mono HB10.out.size)); have x11 := (hb.cell (p := ⟨M, 0, none⟩) hM10).trans x10; have hM11 : M < W11.heap.size := Nat.lt_of_lt_of_le hM10 hb.size; clear hb) | (go_at_call 16; refine (CIF.out W11 IS11.out (powTab_below HE.out HB11.out)).mono ?_; rintro e W12 ⟨rfl, hb⟩; have RS12 : Hid (Rs W12 W12.heap.size A n ll) := Lib.hid ((RS11.out.below hb).more hb.size); have IS12 : Hid (Is W12 W12.heap.size A3 m xs) := Lib.hid ((IS11.out.below hb).more hb.size); have HB12 : Hid (Below w.heap.size w W12) := Lib.hid (HB11.out.trans (hb.mono HB11.out.size)); have x12 := (hb.cell (p := ⟨M, 0, none⟩) hM11).trans x11; have hM12 : M < W12.heap.size := Nat.lt_of_lt_of_le hM11 hb.size; clear hb) | (go_at_call 17; refine (CSF.out W12 IS12.out).mono ?_; rintro e W13 ⟨rfl, hb⟩; have RS13 : Hid (Rs W13 W13.heap.size A n ll) := Lib.hid ((RS12.out.below hb).more hb.size); have IS13 : Hid (Is W13 W13.heap.size A3 m xs) := Lib.hid ((IS12.out.below hb).more hb.size); have HB13 : Hid (Below w.heap.size w W13) := Lib.hid (HB12.out.trans (hb.mono HB12.out.size)); have x13 := (hb.cell (p := ⟨M, 0, none⟩) hM12).trans x12; have hM13 : M < W13.heap.size := Nat.lt_of_lt_of_le hM12 hb.size; clear hb))
  rename_i hHeld
  clear hHeld
  have X13 := Lib.hid x13
  clear x3 x4 x5 x6 x7 x8 x9 x10 x11 x12 x13 RS3 RS4 RS5 RS6 RS7 RS8 RS9 RS10 RS11 RS12 IS3 IS4 IS5 IS6 IS7 IS8 IS9 IS10 IS11 IS12 IA HB3 HB4 HB5 HB6 HB7 HB8 HB9 HB10 HB11 HB12 CS CIC CSC CIV CSV CIF CSF
  go_wp2_with fail
  go_loopw [6] (fun i wr => ∃ k : Nat, k ≤ m ∧ i = .int .i64 k ∧ Below W13.heap.size W13 wr) (fun i _ => m - (intOf i).toNat)
  case atStart => exact ⟨0, by omega, rfl, Below.refl _ _⟩
  case round =>
    obtain ⟨k, hk, rfl, hb⟩ := hrel
    by_cases hlt : k < m
    · have t : decide ((k : Int) < (m : Int)) = true := decide_eq_true (by omega)
      obtain ⟨hgx, hra⟩ := sa_at (ll := ll) (s := st) (k := k) (by rw [← HXS.out]; omega)
      rw [← HXS.out] at hgx
      obtain ⟨hrl, hcs, hcc, hlast⟩ := rd_all hra
      obtain ⟨x, hx⟩ : ∃ x, raV ll (k : Nat) st = x := ⟨_, rfl⟩
      obtain ⟨z, hz⟩ : ∃ z, rlV ll (k : Nat) = z := ⟨_, rfl⟩
      rw [hx] at hgx hcs hcc hlast
      rw [hz] at hcc hlast
      have CRA := Lib.hid (fun W (h : Rs W W.heap.size A n ll) => impl_readat (c := c) (k : Nat) st hx hra hn9 h (Nat.le_refl _))
      have CRL := Lib.hid (fun W (h : Rs W W.heap.size A n ll) => impl_latest (c := c) (k : Nat) hz hrl hn9 h (Nat.le_refl _))
      have HB := Lib.hid hb
      have RSr : Hid (Rs wr wr.heap.size A n ll) := Lib.hid ((RS13.out.below hb).more hb.size)
      have ISr : Hid (Is wr wr.heap.size A3 m xs) := Lib.hid ((IS13.out.below hb).more hb.size)
      have xr := (hb.cell (p := ⟨M, 0, none⟩) hM13).trans X13.out
      have hMr : M < wr.heap.size := Nat.lt_of_lt_of_le hM13 hb.size
      have HGX := Lib.hid hgx
      have HLAST := Lib.hid hlast
      have d1 : decide (st < x.c) = false := decide_eq_false (by omega)
      have d2 : decide (z.c < x.c) = false := decide_eq_false (by omega)
      clear hgx hra hrl hx hz hlast hb
      go_wp2_with fail
      refine (CRA.out wr RSr.out).mono ?_
      rintro e V1 ⟨rfl, hb1⟩
      have xr1 := (hb1.cell (p := ⟨M, 0, none⟩) hMr).trans xr
      have hs1 := hb1.size
      have RS1 := Lib.hid ((RSr.out.below hb1).more hs1)
      have IS1 := Lib.hid ((ISr.out.below hb1).more hs1)
      have HB1 : Hid (Below W13.heap.size W13 V1) := Lib.hid (HB.out.trans (hb1.mono HB.out.size))
      have bx1 := boxed V1 x 36
      have hb2 := new1 V1 (.cells #[.int .i64 x.a, .int .i64 x.b, .int .i64 x.c, .int .i64 x.d, .int .i64 x.e] 36)
      have hs2 : (V1.alloc (.cells #[.int .i64 x.a, .int .i64 x.b, .int .i64 x.c, .int .i64 x.d, .int .i64 x.e] 36)).heap.size = V1.heap.size + 1 := by simp
      have xr2 := (hb2.cell (p := ⟨M, 0, none⟩) (show M < V1.heap.size by omega)).trans xr1
      have RS2 := Lib.hid ((RS1.out.below hb2).more hb2.size)
      have IS2 := Lib.hid ((IS1.out.below hb2).more hb2.size)
      have HB2 := Lib.hid (HB1.out.trans (hb2.mono HB1.out.size))
      clear xr xr1 RSr ISr RS1 IS1 hb1 hb2
      go_wp2_with fail
      generalize V1.alloc (.cells #[.int .i64 x.a, .int .i64 x.b, .int .i64 x.c, .int .i64 x.d, .int .i64 x.e] 36) = V2 at bx1 hs2 xr2 RS2 IS2 HB2 ⊢
      have hMN : M < V1.heap.size := by omega
      refine (CRL.out V2 RS2.out).mono ?_
      rintro e V3 ⟨rfl, hb3⟩
      have hs3 := hb3.size
      have bx3 := bx1.keep (B := V2.heap.size) (by omega) hb3
      have xr3 := (hb3.cell (p := ⟨M, 0, none⟩) (show M < V2.heap.size by omega)).trans xr2
      have RS3 := Lib.hid ((RS2.out.below hb3).more hs3)
      have IS3 := Lib.hid ((IS2.out.below hb3).more hs3)
      have HB3 : Hid (Below W13.heap.size W13 V3) := Lib.hid (HB2.out.trans (hb3.mono HB2.out.size))
      have bz3 := boxed V3 z 36
      have hb4 := new1 V3 (.cells #[.int .i64 z.a, .int .i64 z.b, .int .i64 z.c, .int .i64 z.d, .int .i64 z.e] 36)
      have hs4 : (V3.alloc (.cells #[.int .i64 z.a, .int .i64 z.b, .int .i64 z.c, .int .i64 z.d, .int .i64 z.e] 36)).heap.size = V3.heap.size + 1 := by simp
      have xr4 := (hb4.cell (p := ⟨M, 0, none⟩) (show M < V3.heap.size by omega)).trans xr3
      have bx4 := bx3.keep (B := V3.heap.size) (by omega) hb4
      have RS4 := Lib.hid ((RS3.out.below hb4).more hb4.size)
      have IS4 := Lib.hid ((IS3.out.below hb4).more hb4.size)
      have HB4 := Lib.hid (HB3.out.trans (hb4.mono HB3.out.size))
      clear xr2 xr3 RS2 RS3 IS2 IS3 HB2 HB3 bx1 bx3 hb3 hb4
      go_wp2_with fail
      generalize V3.alloc (.cells #[.int .i64 z.a, .int .i64 z.b, .int .i64 z.c, .int .i64 z.d, .int .i64 z.e] 36) = V4 at bz3 bx4 hs4 xr4 RS4 IS4 HB4 ⊢
      obtain ⟨b, o, y, rfl, hbB, hy, hcy⟩ := IS4.out.at_ hlt
      obtain rfl : y = x.b := by rw [HGX.out] at hy; exact (Option.some.inj hy).symm
      clear hy
      have BX4 := Lib.hid bx4
      have BZ4 := Lib.hid bz3
      obtain ⟨p0, p1, p2, p3, p4⟩ := atFlat bx4
      obtain ⟨q0, q1, q2, q3, q4⟩ := atFlat bz3
      have i1 : (0 : Int) ≤ (k : Int) := by omega
      have i2 : (k : Int) < (m : Int) := by omega
      have tb : (x.b == x.b) = true := by simp
      clear bx4 bz3
      go_quiet (fail)
      clear p0 p1 p2 p3 p4 q0 q1 q2 q3 q4 hcy d1 d2
      have hg := guard_ver
      by_cases hls : ls ≤ st
      · have tl : decide (ls ≤ st) = true := decide_eq_true hls
        have exz : x = z := HLAST.out (by rw [← HLS.out]; exact hls)
        have hnq := neq_no exz
        go_wp2_with fail
        refine (CSL.out (V4.drewN nq) RS4.out).mono ?_
        rintro e V5 ⟨rfl, hb5⟩
        have hb5 : Below V4.heap.size (V4.drewN nq) V5 := hb5
        have hs5 : V4.heap.size ≤ V5.heap.size := hb5.size
        obtain ⟨p0, p1, p2, p3, p4⟩ := atFlat (At.keep (w := V4.drewN nq) (B := V4.heap.size) BX4.out (by omega) hb5)
        obtain ⟨q0, q1, q2, q3, q4⟩ := atFlat (At.keep (w := V4.drewN nq) (B := V4.heap.size) BZ4.out (by omega) hb5)
        have HB5 : Hid (Below W13.heap.size W13 V5) := Lib.hid ((bdrewN HB4.out nq).trans (hb5.mono HB4.out.size))
        clear hb5
        go_wp2_with fail
        go_roundw
        case rel => exact ⟨k + 1, by omega, by go_num, HB5.out⟩
        case measure => simp [intOf]; omega
      · have tl : decide (ls ≤ st) = false := decide_eq_false hls
        go_wp2_with fail
        refine (CSL.out (V4.drewN nq) RS4.out).mono ?_
        rintro e V5 ⟨rfl, hb5⟩
        have hb5 : Below V4.heap.size (V4.drewN nq) V5 := hb5
        have HB5 : Hid (Below W13.heap.size W13 V5) := Lib.hid ((bdrewN HB4.out nq).trans (hb5.mono HB4.out.size))
        clear hb5
        go_wp2_with fail
        go_roundw
        case rel => exact ⟨k + 1, by omega, by go_num, HB5.out⟩
        case measure => simp [intOf]; omega
    · have t : decide ((k : Int) < (m : Int)) = false := decide_eq_false (by omega)
      have HB : Hid (Below w.heap.size w wr) := Lib.hid (HB13.out.trans (hb.mono HB13.out.size))
      clear hb
      go_wp2_with fail
      refine (impl_new wr).mono ?_
      rintro e V1 ⟨N, rfl, hN, hrr, hb1⟩
      have rs1 := hrr.rs ns_len (by rw [ns_cnt]; decide)
      have HB1 : Hid (Below w.heap.size w V1) := Lib.hid (HB.out.trans (hb1.mono HB.out.size))
      have bx1 := one_cell V1 (.slice (some ⟨N, 0, none⟩) 6 6) 26
      have hb2 := new1 V1 (.cells #[.slice (some ⟨N, 0, none⟩) 6 6] 26)
      have hs2 : (V1.alloc (.cells #[.slice (some ⟨N, 0, none⟩) 6 6] 26)).heap.size = V1.heap.size + 1 := by simp
      have RS2 := Lib.hid ((rs1.below hb2).more hb2.size)
      have HB2 := Lib.hid (HB1.out.trans (hb2.mono HB1.out.size))
      clear hrr hb1 hb2 rs1
      go_wp2_with fail
      generalize V1.alloc (.cells #[.slice (some ⟨N, 0, none⟩) 6 6] 26) = V2 at bx1 hs2 RS2 HB2 ⊢
      refine (impl_store (by decide) RS2.out (Nat.le_refl _)).mono ?_
      rintro e V3 ⟨rfl, hb3⟩
      rw [ns_st]
      have hs3 := hb3.size
      have bx3 := (hb3.cell (p := ⟨V1.heap.size, 0, none⟩) (by simp; omega)).trans bx1
      have RS3 := Lib.hid ((RS2.out.below hb3).more hs3)
      have HB3 : Hid (Below w.heap.size w V3) := Lib.hid (HB2.out.trans (hb3.mono HB2.out.size))
      clear hb3
      go_wp2_with fail
      refine (impl_last (by decide) RS3.out (Nat.le_refl _)).mono ?_
      rintro e V4 ⟨rfl, hb4⟩
      rw [ns_last]
      have hs4 := hb4.size
      have bx4 := (hb4.cell (p := ⟨V1.heap.size, 0, none⟩) (by simp; omega)).trans bx3
      have RS4 := Lib.hid ((RS3.out.below hb4).more hs4)
      have HB4 : Hid (Below w.heap.size w V4) := Lib.hid (HB3.out.trans (hb4.mono HB3.out.size))
      clear hb4
      go_wp2_with fail
      refine (impl_count (by decide) (by rw [ns_cnt]; decide) RS4.out (Nat.le_refl _)).mono ?_
      rintro e V5 ⟨rfl, hb5⟩
      rw [ns_cnt]
      have HB5 : Hid (Below w.heap.size w V5) := Lib.hid (HB4.out.trans (hb5.mono HB4.out.size))
      clear hb5
      go_wp2_with fail
      go_ret
      exact ⟨rfl, HB5.out⟩
end Go.Proofs.YtleeglgjaifejaaDoor.stcore
