/- Plain facts on varints: the list of bytes that stands for a number, and how a row of bytes that the call owns becomes a string. -/
import Derived.Test.YtfjjpmpkjcopiaaDoorRows
import Derived.Test.YtfjjpmpkjcopiaaDoorNum
import Derived.Test.YtfjjpmpkjcopiaaDoorConv
import Derived.WalkKit
import Derived.ProofKit
import Derived.Lib.Hide
import Derived.Laws.BitsAllLaws
import Derived.Laws.AppendOwn
import Derived.Laws.OwnMore
namespace Go.Proofs.YtfjjpmpkjcopiaaDoor.var
open Go.RowKit
open Go.Proofs.YtfjjpmpkjcopiaaDoor.num
/-- The varint of a number, seven bits a byte. -/
def venc (m : Nat) : List UInt8 := if h : m < 128 then [UInt8.ofNat m] else UInt8.ofNat (128 + m % 128) :: venc (m / 128)
termination_by m
decreasing_by omega
theorem venc_small {m : Nat} (h : m < 128) : venc m = [UInt8.ofNat m] := by rw [venc, dif_pos h]
theorem venc_great {m : Nat} (h : ¬ m < 128) : venc m = UInt8.ofNat (128 + m % 128) :: venc (m / 128) := by rw [venc, dif_neg h]
/-- The cells of a list of bytes. -/
def byteV (c : UInt8) : Value := .int .u8 ((c.toNat : Nat) : Int)
theorem or128 : ∀ y : Nat, y < 256 → y ||| 128 = 128 + y % 128 := by decide +kernel
theorem or_128 (x : Nat) : bits .or .u8 ((x : Int) % 256) 128 = 128 + (x : Int) % 128 := by
  have e : ((x : Int) % 256) = ((x % 256 : Nat) : Int) := by omega
  rw [e, show (128 : Int) = ((128 : Nat) : Int) from rfl, u8_or_nat _ _ (by omega) (by omega)]
  rw [or128 _ (Nat.mod_lt _ (by decide))]
  omega
theorem byteV_ofNat (n : Nat) (h : n < 256) : byteV (UInt8.ofNat n) = .int .u8 (n : Int) := by
  unfold byteV
  rw [UInt8.toNat_ofNat', Nat.mod_eq_of_lt (by omega)]
/-- One round: the byte that is written, the number that is left. -/
theorem round_row (acc : List UInt8) (x : Nat) : acc.map byteV ++ [.int .u8 (128 + (x : Int) % 128)] = (acc ++ [UInt8.ofNat (128 + x % 128)]).map byteV := by
  rw [List.map_append, List.map_cons, List.map_nil, byteV_ofNat _ (by omega)]
  congr 3
theorem last_row (acc : List UInt8) (x : Nat) (h : x < 128) : acc.map byteV ++ [.int .u8 (x : Int)] = (acc ++ [UInt8.ofNat x]).map byteV := by
  rw [List.map_append, List.map_cons, List.map_nil, byteV_ofNat _ (by omega)]
theorem round_enc (acc : List UInt8) (x : Nat) (h : ¬ x < 128) : (acc ++ [UInt8.ofNat (128 + x % 128)]) ++ venc (x / 128) = acc ++ venc x := by
  rw [venc_great h, List.append_assoc]; rfl
/-- The varint as a string. -/
def vencS (m : Nat) : ByteArray := ⟨(venc m).toArray⟩
theorem last_enc (acc : List UInt8) (m x : Nat) (h : x < 128) (he : acc ++ venc x = venc m) : (⟨(acc ++ [UInt8.ofNat x]).toArray⟩ : ByteArray) = vencS m := by
  unfold vencS; rw [← he, venc_small h]
theorem owned_string {P : Program} {w : World} {base : Nat} {e src dst : TypeId} (hs : P.underlying src = some (.slice e)) (he : P.underlying e = some (.int .u8)) (hd : P.underlying dst = some .string)
    {v : Value} {l : List UInt8} {n : Nat} (hn : l.length = n) (h : w.ownsRow base e 1 v n (l.map byteV)) : Sem.run P (convert src dst v) w = .ok (.string ⟨l.toArray⟩) w := by
  subst hn
  rcases h.2 with ⟨rfl, h0⟩ | ⟨g, cap, cur, rfl, hb, hg, hle, hm, hsz, htk⟩
  · obtain rfl : l = [] := by simpa using h0
    exact run_convert_bytes_nil w src e hs he 0 0 dst hd
  · have hc := h.cells (g := g) rfl
    exact run_convert_bytes_back w src dst e ⟨g, 0, none⟩ cap l hs he hd fun j hj => hc j _ (by simp [hj, byteV])
end Go.Proofs.YtfjjpmpkjcopiaaDoor.var
