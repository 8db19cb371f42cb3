/- How long a list of writes is behind TrackWrite. Plain mathematics. -/
import Derived.Test.YtajllccgfhminaaTw
namespace Go.Proofs.Ytajllccgfhminaa.twm
open Go.Proofs.Ytajllccgfhminaa.el2 Go.Proofs.Ytajllccgfhminaa.tx Go.Proofs.Ytajllccgfhminaa.tk Go.Proofs.Ytajllccgfhminaa.pw Go.Proofs.Ytajllccgfhminaa.tw
open Go.Proofs.Ytajllccgfhminaa.sl (Ver)
theorem twS_max (C : List (List Ver)) (x : Hd) (R S : List E2) (k v : Int) : (twS C x R S k v).length ≤ S.length ∨ (twS C x R S k v).length ≤ 7 := by
  by_cases h : twB C x R S k v = true
  · rw [(tw_yes h).2]
    have h1 : actB x R S = true := by simp only [twB, Bool.and_eq_true] at h; exact h.1.2
    have h2 := tx_six (act_tx h1)
    have h3 := insW_len ⟨k, v⟩ S
    omega
  · rw [(tw_no (Bool.eq_false_iff.2 h)).2]
    exact .inl (Nat.le_refl _)
end Go.Proofs.Ytajllccgfhminaa.twm
