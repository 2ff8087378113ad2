/- regions of many operations: checkpoints of a walk (tools/reg.py writes them). No program is named here. -/
import Derived.Test.YtecknicmonhcaaaRegE
namespace Go.Proofs.Ytecknicmonhcaaa.reg
open Go

/-- from here on: what stands in the slots that are still read -/
theorem any_abs {P : Program} {md : Region.Mode} {ops : Array Oper} {Q : Exit → Act → World → Prop} {S : World → Prop} {E : Nat → Bool} {fuel : Nat} {L : Array Bool} {a : Act} {w : World} (H : Act → Prop) (ha : H a) (h : ∀ a0, H a0 → a0 = a → wpAnyE P md ops Q S E fuel L a0 w) : wpAnyE P md ops Q S E fuel L a w := h a ha rfl
theorem any_list {P : Program} {md : Region.Mode} {ops : Array Oper} {Q : Exit → Act → World → Prop} {S : World → Prop} {E : Nat → Bool} {fuel : Nat} {L : Array Bool} {a : Act} {w : World} (L' : Array Bool) (hL : L = L') (h : wpAnyE P md ops Q S E fuel L' a w) : wpAnyE P md ops Q S E fuel L a w := hL ▸ h
/-- what a panic asks of the slots: nothing -/
theorem any_q {P : Program} {md : Region.Mode} {ops : Array Oper} {Q : Exit → Act → World → Prop} {S : World → Prop} {E : Nat → Bool} {fuel : Nat} {L : Array Bool} {a : Act} {w : World} (hq : ∀ c t d b w, Q (.panic c) ⟨t, d⟩ w → Q (.panic c) ⟨b, d⟩ w)
    (h : (∀ c (a b : Act) w, b.defers = a.defers → Q (.panic c) a w → Q (.panic c) b w) → wpAnyE P md ops Q S E fuel L a w) : wpAnyE P md ops Q S E fuel L a w :=
  h fun c a b w e h => by
    obtain ⟨t, d⟩ := a
    obtain ⟨t2, d2⟩ := b
    cases e
    exact hq c t d t2 w h
theorem at_of {xs : Array Value} {k : Nat} {v : Value} (h : xs[k]? = some v) : ∀ hk, xs[k]'hk = v := fun hk => by
  rw [Array.getElem?_eq_getElem hk] at h
  exact Option.some.inj h
end Go.Proofs.Ytecknicmonhcaaa.reg
