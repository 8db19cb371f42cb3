/- A slice of integers in blocks lo <= g < hi: owned (OwI), marked (MkI), appended to; what a frame keeps of it. -/
import Derived.Test.YtjnlbhmddhpmaaaGreatFr
import Derived.Test.YtjnlbhmddhpmaaaGreatInts
import Derived.Test.YtjnlbhmddhpmaaaGreatEl2
import Derived.Laws.AppendOwn
import Derived.Laws.MakeOwn
import Derived.Laws.Entries
import Derived.OwnWalk
import Derived.WalkKit
import Derived.ProofKit
namespace Go.Proofs.YtjnlbhmddhpmaaaGreat.owi
open Go.ChangeShapes Go.WideShapes Go.ChangeAt Go.RowKit
open Go.Proofs.YtjnlbhmddhpmaaaGreat.ints Go.Proofs.YtjnlbhmddhpmaaaGreat.fr
set_option linter.unusedVariables false
set_option linter.unusedSimpArgs false
abbrev mi (xs : List Int) : List Value := xs.map (Value.int .i64)
def OwI (w : World) (lo hi : Nat) (A : Option Addr) (n : Nat) (xs : List Int) : Prop :=
  xs.length = n ∧ (0 < n → ∃ g M f, A = some ⟨g, 0, none⟩ ∧ lo ≤ g ∧ g < hi ∧ w.rowIs g 3 M f ∧ n ≤ M ∧ ∀ k x, xs[k]? = some x → f k = .int .i64 x)
def MkI (w : World) (lo hi : Nat) (A : Option Addr) (n : Nat) (k0 : Int) : Prop :=
  0 < n → ∃ g M, A = some ⟨g, 0, none⟩ ∧ lo ≤ g ∧ g < hi ∧ n ≤ M ∧ IR w g M k0 n
section
variable {w w' : World} {lo hi lo' hi' B a b n : Nat} {A : Option Addr} {xs : List Int} {k0 : Int}
theorem lt_i {k : Nat} {x : Int} (h : xs[k]? = some x) : k < xs.length := by
  rcases Nat.lt_or_ge k xs.length with h' | h'
  · exact h'
  · rw [List.getElem?_eq_none h'] at h; cases h
theorem OwI.is (h : OwI w lo hi A n xs) (hB : hi ≤ B) : Is w B A n xs := ⟨h.1, fun hn => by
  obtain ⟨g, M, f, e, h1, h2, hr, hM, hf⟩ := h.2 hn
  refine ⟨g, 0, e, by omega, fun k x hx => ?_⟩
  have hk := lt_i hx
  have hl := h.1
  rw [Nat.zero_add]
  exact (hr.cell (by omega)).trans (by rw [hf k x hx])⟩
theorem OwI.vs (h : OwI w lo hi A n xs) (hB : hi ≤ B) : Is w B A n xs := h.is hB
theorem OwI.fr (h : OwI w lo hi A n xs) (hf : FR a b w w') (hd : hi ≤ a ∨ b ≤ lo) (hs : hi ≤ w.heap.size) : OwI w' lo hi A n xs := ⟨h.1, fun hn => by
  obtain ⟨g, M, f, e, h1, h2, hr, hM⟩ := h.2 hn
  exact ⟨g, M, f, e, h1, h2, hr.of_block (hf.block _ (by omega) (by omega)), hM⟩⟩
theorem MkI.fr (h : MkI w lo hi A n k0) (hf : FR a b w w') (hd : hi ≤ a ∨ b ≤ lo) (hs : hi ≤ w.heap.size) : MkI w' lo hi A n k0 := fun hn => by
  obtain ⟨g, M, e, h1, h2, hM, hk⟩ := h hn
  exact ⟨g, M, e, h1, h2, hM, hk.of_block (hf.block _ (by omega) (by omega))⟩
/-- a row that append has made -/
theorem OwI.of_own {base c : Nat} (h : w.ownsRow base 3 1 (.slice A n c) n (mi xs)) (hl : xs.length = n) (h1 : lo ≤ base) (h2 : w.heap.size ≤ hi) : OwI w lo hi A n xs := ⟨hl, fun hn => by
  rcases h.2 with ⟨_, e⟩ | ⟨g, cap, cur, e, hb, hh, hnc, hcm, hsz, hx⟩
  · omega
  · injection e with e0 e1 e2
    subst e0
    have hg : g < w.heap.size := by
      rcases Nat.lt_or_ge g w.heap.size with hlt | hge
      · exact hlt
      · rw [Array.getElem?_eq_none hge] at hh; cases hh
    refine ⟨g, cur.size, fun i => cur[i]?.getD undef, rfl, by omega, by omega, ⟨cur, hh, rfl, fun i hi => ?_⟩, by omega, fun k x hx2 => ?_⟩
    · show cur[i]? = some (cur[i]?.getD undef)
      rw [Array.getElem?_eq_getElem hi]; rfl
    · have hk := lt_i hx2
      have fa : (mi xs)[k]? = some (.int .i64 x) := by simp [mi, hx2]
      rw [← hx, List.getElem?_take, if_pos (by omega), Array.getElem?_toList] at fa
      show cur[k]?.getD undef = _
      rw [fa]; rfl⟩
end
theorem info_i : (Tryz.prog.info? 3).map (fun i => (i.zero, i.size, i.bytes)) = some (some (.int .i64 0), 1, 8) := by kernel_rfl
theorem run_append_i {P : Program} (w : World) {base : Nat} (t ty e : TypeId) (i : TypeInfo) (z : Value) (ht : P.underlying t = some (.slice e)) (hi : P.info? e = some i) (hz : i.zero = some z) (hsize : i.size = 1) (hby : i.bytes = 8) (hzs : z.cells.size = 1) {v : Value} {k : Nat} {xs : List Int} (hown : w.ownsRow base e 1 v k (mi xs)) {b c : Nat} {x : Int} (hx : w.cell? ⟨b, 0, none⟩ = some (.int .i64 x)) (hk : k + 1 ≤ 4194304) (hbase : base ≤ w.heap.size) :
    ∃ v' w', (Builtin.append_ #[t, t] ty #[v, .slice (some ⟨b, 0, none⟩) 1 c]).run P w = .ok v' w' ∧ w'.ownsRow base e 1 v' (k + 1) (mi (xs ++ [x])) ∧ w.grownBy w' v.ownBlock := by
  obtain ⟨v', w', hr, ho, hg, _⟩ := run_append_own (P := P) w base t ty e i z 1 8 ht hi hz hsize hby hzs (by decide) v k (mi xs) hown ⟨b, 0, none⟩ 1 c [.int .i64 x] rfl (by
    intro j y hj
    match j, hj with
    | 0, hj => injection hj with hj; subst hj; rw [Addr.add_lit]; exact hx) (by
    intro y hy
    rw [List.mem_singleton] at hy
    subst hy; rfl) (by unfold maxLen; omega) (by omega) hbase
  exact ⟨v', w', hr, by rw [mi, List.map_append]; exact ho, hg⟩
/-- where a slice of integers that append has made stands -/
theorem own_form {w : World} {base n : Nat} {v : Value} {xs : List Value} (h : w.ownsRow base 3 1 v n xs) : ∃ A c, v = .slice A n c := by
  rcases h.2 with ⟨e1, h0⟩ | ⟨g, cap, cur, e1, _⟩
  · subst h0; exact ⟨none, 0, e1⟩
  · exact ⟨_, _, e1⟩
end Go.Proofs.YtjnlbhmddhpmaaaGreat.owi
