/- Rows of bytes that a call owns, and the strings that they become. -/
import Derived.Test.YtfjjpmpkjcopiaaDoorRows
import Derived.WalkKit
import Derived.ProofKit
import Derived.Lib.Hide
import Derived.Laws.AppendOwn
import Derived.Laws.OwnMore
import Derived.Laws.BytesArg
import Derived.Laws.IdiomStrings
import Derived.Maps.AppendAt
namespace Go.Proofs.YtfjjpmpkjcopiaaDoor.bytes
open Go.RowKit
theorem info5 : (Tryd.prog.info? 5).map (fun i => (i.zero, i.size, i.bytes)) = some (some (.int .u8 0), 1, 1) := by kernel_rfl
/-- The cells of a list of bytes. -/
def byteV (c : UInt8) : Value := .int .u8 ((c.toNat : Nat) : Int)
theorem byteV_ofNat (n : Nat) (h : n < 256) : byteV (UInt8.ofNat n) = .int .u8 (n : Int) := by
  unfold byteV
  rw [UInt8.toNat_ofNat', Nat.mod_eq_of_lt (by omega)]
theorem snoc_row (l : List UInt8) (x : Int) (h0 : 0 ≤ x) (h1 : x ≤ 255) : l.map byteV ++ [.int .u8 x] = (l ++ [UInt8.ofNat x.toNat]).map byteV := by
  rw [List.map_append, List.map_cons, List.map_nil, byteV_ofNat _ (by omega), Int.toNat_of_nonneg h0]
theorem one_oneCell (k : IntKind) (n : Int) : ∀ u ∈ [Value.int k n], u.oneCell' = true := by
  intro u hu; simp at hu; subst hu; rfl
theorem owned_string {P : Program} {w : World} {base : Nat} {e src dst : TypeId} (hs : P.underlying src = some (.slice e)) (he : P.underlying e = some (.int .u8)) (hd : P.underlying dst = some .string)
    {v : Value} {l : List UInt8} {n : Nat} (hn : l.length = n) (h : w.ownsRow base e 1 v n (l.map byteV)) : Sem.run P (convert src dst v) w = .ok (.string ⟨l.toArray⟩) w := by
  subst hn
  rcases h.2 with ⟨rfl, h0⟩ | ⟨g, cap, cur, rfl, hb, hg, hle, hm, hsz, htk⟩
  · obtain rfl : l = [] := by simpa using h0
    exact run_convert_bytes_nil w src e hs he 0 0 dst hd
  · have hc := h.cells (g := g) rfl
    exact run_convert_bytes_back w src dst e ⟨g, 0, none⟩ cap l hs he hd fun j hj => hc j _ (by simp [hj, byteV])
end Go.Proofs.YtfjjpmpkjcopiaaDoor.bytes
