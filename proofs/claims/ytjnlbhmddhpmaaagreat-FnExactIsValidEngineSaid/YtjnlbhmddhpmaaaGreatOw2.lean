/- A slice of two-integer structs in blocks lo <= g < hi: read (Vr), owned (OwS), marked (MkS); what a frame keeps of it. -/
import Derived.Test.YtjnlbhmddhpmaaaGreatFr
import Derived.Test.YtjnlbhmddhpmaaaGreatRReadMark
import Derived.Test.YtjnlbhmddhpmaaaGreatRWrite
import Derived.Laws.AppendOwn
import Derived.WalkKit
import Derived.ProofKit
namespace Go.Proofs.YtjnlbhmddhpmaaaGreat.ow2
open Go.ChangeShapes Go.WideShapes Go.ChangeAt Go.RowKit
open Go.Proofs.YtjnlbhmddhpmaaaGreat.el2 Go.Proofs.YtjnlbhmddhpmaaaGreat.fr
set_option linter.unusedVariables false
def Vr (w : World) (lo hi : Nat) (A : Option Addr) (n : Nat) (l : List E2) : Prop :=
  l.length = n ∧ (0 < n → ∃ b o, A = some ⟨b, o, none⟩ ∧ lo ≤ b ∧ b < hi ∧ ∀ k x, l[k]? = some x → At w b (o + k * 2) x)
def OwS (t : TypeId) (w : World) (lo hi : Nat) (A : Option Addr) (n : Nat) (l : List E2) : Prop :=
  l.length = n ∧ (0 < n → ∃ g M f, A = some ⟨g, 0, none⟩ ∧ lo ≤ g ∧ g < hi ∧ w.rowIs g t M f ∧ n * 2 ≤ M ∧ ∀ k x, l[k]? = some x → f (k * 2) = .int .i64 x.a ∧ f (k * 2 + 1) = .int .i64 x.b)
def MkS (t : TypeId) (w : World) (lo hi : Nat) (A : Option Addr) (n : Nat) (k0 : Int) : Prop :=
  0 < n → ∃ g M, A = some ⟨g, 0, none⟩ ∧ lo ≤ g ∧ g < hi ∧ n * 2 ≤ M ∧ MK t w g M k0 n
section
variable {t : TypeId} {w w' : World} {lo hi lo' hi' B a b n : Nat} {A : Option Addr} {l : List E2} {k0 : Int}
theorem Vr.vs (h : Vr w lo hi A n l) (hB : hi ≤ B) : Vs w B A n l := ⟨h.1, fun hn => by
  obtain ⟨b, o, e, h1, h2, h3⟩ := h.2 hn
  exact ⟨b, o, e, by omega, h3⟩⟩
theorem Vr.of_vs (h : Vs w B A n l) : Vr w 0 B A n l := ⟨h.1, fun hn => by
  obtain ⟨b, o, e, h1, h2⟩ := h.2 hn
  exact ⟨b, o, e, Nat.zero_le _, h1, h2⟩⟩
theorem Vr.fr (h : Vr w lo hi A n l) (hf : FR a b w w') (hd : hi ≤ a ∨ b ≤ lo) (hs : hi ≤ w.heap.size) : Vr w' lo hi A n l := ⟨h.1, fun hn => by
  obtain ⟨b', o, e, h1, h2, h3⟩ := h.2 hn
  exact ⟨b', o, e, h1, h2, fun k x hx => (h3 k x hx).of_block (hf.block _ (by omega) (by omega))⟩⟩
theorem Vr.nil_ (w : World) (lo hi : Nat) (A : Option Addr) : Vr w lo hi A 0 [] := ⟨rfl, fun h => absurd h (by omega)⟩
theorem OwS.nil_ (t : TypeId) (w : World) (lo hi : Nat) (A : Option Addr) : OwS t w lo hi A 0 [] := ⟨rfl, fun h => absurd h (by omega)⟩
theorem OwS.vr (h : OwS t w lo hi A n l) : Vr w lo hi A n l := ⟨h.1, fun hn => by
  obtain ⟨g, M, f, e, h1, h2, hr, hM, hf⟩ := h.2 hn
  refine ⟨g, 0, e, h1, h2, fun k x hx => ?_⟩
  have hk := lt_get hx
  have hl := h.1
  obtain ⟨fa, fb⟩ := hf k x hx
  exact ⟨by rw [Nat.zero_add]; exact (hr.cell (by omega)).trans (by rw [fa]), by rw [Nat.zero_add]; exact (hr.cell (by omega)).trans (by rw [fb])⟩⟩
theorem OwS.vs (h : OwS t w lo hi A n l) (hB : hi ≤ B) : Vs w B A n l := h.vr.vs hB
theorem OwS.wide (h : OwS t w lo hi A n l) (h1 : lo' ≤ lo) (h2 : hi ≤ hi') : OwS t w lo' hi' A n l := ⟨h.1, fun hn => by
  obtain ⟨g, M, f, e, h3, h4, h5⟩ := h.2 hn
  exact ⟨g, M, f, e, by omega, by omega, h5⟩⟩
theorem OwS.fr (h : OwS t w lo hi A n l) (hf : FR a b w w') (hd : hi ≤ a ∨ b ≤ lo) (hs : hi ≤ w.heap.size) : OwS t w' lo hi A n l := ⟨h.1, fun hn => by
  obtain ⟨g, M, f, e, h1, h2, hr, hM⟩ := h.2 hn
  exact ⟨g, M, f, e, h1, h2, hr.of_block (hf.block _ (by omega) (by omega)), hM⟩⟩
theorem MkS.fr (h : MkS t w lo hi A n k0) (hf : FR a b w w') (hd : hi ≤ a ∨ b ≤ lo) (hs : hi ≤ w.heap.size) : MkS t w' lo hi A n k0 := fun hn => by
  obtain ⟨g, M, e, h1, h2, hM, hk⟩ := h hn
  exact ⟨g, M, e, h1, h2, hM, hk.of_block (hf.block _ (by omega) (by omega))⟩
theorem fld_at {x : E2} {l : List E2} {k : Nat} (hx : l[k]? = some x) : l.getD k default = x := by
  have hk := lt_get hx
  rw [List.getElem?_eq_getElem hk] at hx
  simp only [List.getD_eq_getElem?_getD, List.getElem?_eq_getElem hk, Option.getD_some]
  exact Option.some.inj hx
/-- a new row of the call's own -/
theorem OwS.of_row {N : Nat} (h : Row t w N n l n) (hl : l.length = n) (h1 : lo ≤ N) (h2 : N < hi) : OwS t w lo hi (some ⟨N, 0, none⟩) n l := ⟨hl, fun hn => by
  refine ⟨N, n * 2, _, rfl, h1, h2, h, Nat.le_refl _, fun k x hx => ?_⟩
  have hk := lt_get hx
  refine ⟨?_, ?_⟩
  · rw [if_pos (by omega), show k * 2 / 2 = k by omega, show k * 2 % 2 = 0 by omega, fld_at hx]; rfl
  · rw [if_pos (by omega), show (k * 2 + 1) / 2 = k by omega, show (k * 2 + 1) % 2 = 1 by omega, fld_at hx]; rfl⟩
/-- a row that append has made -/
theorem OwS.of_own {base c : Nat} (h : w.ownsRow base t 2 (.slice A n c) n (flat l)) (hl : l.length = n) (h1 : lo ≤ base) (h2 : w.heap.size ≤ hi) : OwS t w lo hi A n l := ⟨hl, fun hn => by
  rcases h.2 with ⟨_, e⟩ | ⟨g, cap, cur, e, hb, hh, hnc, hcm, hsz, hx⟩
  · omega
  · injection e with e0 e1 e2
    subst e0
    have hg : g < w.heap.size := by
      rcases Nat.lt_or_ge g w.heap.size with hlt | hge
      · exact hlt
      · rw [Array.getElem?_eq_none hge] at hh; cases hh
    refine ⟨g, cur.size, fun i => cur[i]?.getD undef, rfl, by omega, by omega, ⟨cur, hh, rfl, fun i hi => ?_⟩, by rw [hsz]; exact Nat.mul_le_mul_right 2 hnc, fun k x hx2 => ?_⟩
    · show cur[i]? = some (cur[i]?.getD undef)
      rw [Array.getElem?_eq_getElem hi]; rfl
    · have hk := lt_get hx2
      obtain ⟨fa, fb⟩ := flat_at l k x hx2
      rw [← hx, List.getElem?_take, if_pos (by omega), Array.getElem?_toList] at fa
      rw [← hx, List.getElem?_take, if_pos (by omega), Array.getElem?_toList] at fb
      exact ⟨by show cur[k * 2]?.getD undef = _; rw [fa]; rfl, by show cur[k * 2 + 1]?.getD undef = _; rw [fb]; rfl⟩⟩
end
end Go.Proofs.YtjnlbhmddhpmaaaGreat.ow2
