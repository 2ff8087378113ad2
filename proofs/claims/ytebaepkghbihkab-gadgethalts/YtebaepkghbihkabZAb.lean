/- utf: what Narrow answers. -/
import Derived.Test.YtebaepkghbihkabZAa
namespace Go.Proofs.Ytebaepkghbihkab.utf
open Go.RowKit Go.PlainAid Go.Lib Go.Proofs.Ytebaepkghbihkab.lane

theorem Bys.keep {w w' : World} {B : Nat} {v : Value} {acc : List Int} (h : Bys w B v acc) (hb : Below w.heap.size w w') : Bys w' B v acc := by
  refine ⟨h.1, ?_⟩
  rcases h.2 with h | ⟨g, cap, cur, hv, hB, hg, h⟩
  · exact .inl h
  · refine .inr ⟨g, cap, cur, hv, hB, ?_, h⟩
    have hlt : g < w.heap.size := by
      rcases Nat.lt_or_ge g w.heap.size with hl | hl
      · exact hl
      · rw [Array.getElem?_eq_none hl] at hg; cases hg
    rw [hb.block g hlt]; exact hg

end Go.Proofs.Ytebaepkghbihkab.utf

/- plugkeep: what utfLives and runesOf answer. -/
namespace Go.Proofs.Ytebaepkghbihkab.utf
open Go.RowKit Go.PlainAid Go.Lib Go.Proofs.Ytebaepkghbihkab.lane

theorem bsq {w w1 w2 : World} (h1 : Below w.heap.size w w1) (h2 : Below w1.heap.size w1 w2) : Below w.heap.size w w2 := h1.trans (h2.mono h1.size)

theorem encode_eq (r : Int) (h : okR r) : Utf8.encode r = strOfNums (encodeRuneZ r) := by
  unfold okR at h
  have hv : Utf8.valid r = true := by
    unfold Utf8.valid
    rw [Bool.or_eq_true, Bool.and_eq_true, Bool.and_eq_true, decide_eq_true_eq, decide_eq_true_eq, decide_eq_true_eq, decide_eq_true_eq]
    omega
  have key : ∀ (z : Int) (n : Nat), z = (n : Int) → UInt8.ofNat n = UInt8.ofNat z.toNat := fun z n e => by rw [e]; rfl
  unfold Utf8.encode
  simp only [hv, if_true]
  by_cases h1 : r ≤ 127
  · rw [if_pos (by omega), encodeRuneZ_one (by omega) h1]; rfl
  · rw [if_neg (by omega)]
    by_cases h2 : r ≤ 2047
    · rw [if_pos (by omega), encodeRuneZ_two (by omega) h2, key (192 + r / 64) (192 + r.toNat / 64) (by omega), key (128 + r % 64) (128 + r.toNat % 64) (by omega)]; rfl
    · rw [if_neg (by omega)]
      by_cases h3 : r ≤ 65535
      · rw [if_pos (by omega), encodeRuneZ_three (by omega), key (224 + r / 4096) (224 + r.toNat / 4096) (by omega), key (128 + r / 64 % 64) (128 + r.toNat / 64 % 64) (by omega), key (128 + r % 64) (128 + r.toNat % 64) (by omega)]; rfl
      · rw [if_neg (by omega), encodeRuneZ_four (by omega) (by omega), key (240 + r / 262144) (240 + r.toNat / 262144) (by omega), key (128 + r / 4096 % 64) (128 + r.toNat / 4096 % 64) (by omega), key (128 + r / 64 % 64) (128 + r.toNat / 64 % 64) (by omega), key (128 + r % 64) (128 + r.toNat % 64) (by omega)]; rfl

end Go.Proofs.Ytebaepkghbihkab.utf
