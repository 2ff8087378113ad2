/- slices.IndexFunc of spans: where one begins. -/
import Derived.Test.YtifebinpjpalhabAreG
import Derived.Shelf.Abstract
namespace Go.Proofs.Ytifebinpjpalhab.arena
open Go.RowKit
set_option linter.unusedVariables false
set_option linter.unusedSimpArgs false
set_option maxRecDepth 100000

def ixV (L : List Sp) (p : Int) : Int := if idx L p < L.length then (idx L p : Int) else -1
theorem idx_at_drop {L : List Sp} {k : Nat} {x : Sp} (p : Int) (h : L[k]? = some x) : idx (L.drop k) p = if (x.1 == p) = true then 0 else idx (L.drop (k + 1)) p + 1 := by
  have hk := (List.getElem?_eq_some_iff.1 h).1
  have hx := (List.getElem?_eq_some_iff.1 h).2
  rw [List.drop_eq_getElem_cons hk, hx]
  unfold idx
  rw [List.findIdx_cons]
  cases (x.1 == p) <;> rfl
set_option maxHeartbeats 2000000 in
theorem indexFunc_any (F : FuncId) (X : Nat) (p : Int) (v : Value) (L : List Sp) (w : World) (hv : Rss w v L) (hl : L.length ≤ 64)
    (eg : ∀ args w, (callFunc F args).run Try.prog w = .ok (.enter F args) w)
    (hF : ∀ (x : Sp) (u : World), Below w.heap.size w u → Calls Try.prog F #[spV x.1 x.2, .pointer (some ⟨X, 0, none⟩)] u fun e w' => e = .returned (.bool (x.1 == p)) ∧ Below u.heap.size u w') :
    Calls Try.prog 10 #[v, .func (.func F) #[] #[.pointer (some ⟨X, 0, none⟩)]] w fun e w' => e = .returned (.int .i64 (ixV L p)) ∧ Below w.heap.size w w' := by
  obtain ⟨a, c, rfl, hlc, hcm⟩ := hv.form
  obtain ⟨n, hn⟩ : ∃ n, L.length = n := ⟨_, rfl⟩
  have HN : Hid (L.length = n) := hn
  rw [hn] at hv hlc hl ⊢
  have HR : Hid (Rss w (.slice a n c) L) := hv
  have HF : Hid (∀ (x : Sp) (u : World), Below w.heap.size w u → Calls Try.prog F #[spV x.1 x.2, .pointer (some ⟨X, 0, none⟩)] u fun e w' => e = .returned (.bool (x.1 == p)) ∧ Below u.heap.size u w') := hF
  obtain ⟨q, hq⟩ : ∃ q, ixV L p = q := ⟨_, rfl⟩
  have HQ : Hid ((if idx L p < n then (idx L p : Int) else -1) = q) := by show _ = _; rw [← hq, ← hn]; rfl
  rw [hq]
  unfold maxLen at hcm
  clear hv hn hF hq
  go_enter Try.func10, Try.ntmps10
  go_wp2
  go_loopw [8] (fun i wr => ∃ (k : Nat), k ≤ n ∧ i = .int .i64 (k : Int) ∧ Below w.heap.size w wr ∧ Hid (k + idx (L.drop k) p = idx L p)) (fun i _ => n - (intOf i).toNat)
  case atStart => exact ⟨0, Nat.zero_le _, rfl, Below.refl _ _, by show 0 + idx L p = _; omega⟩
  case round =>
    obtain ⟨k, hk, rfl, hbr, HA⟩ := hrel
    have HBr : Hid (Below w.heap.size w wr) := hbr
    by_cases hlt : ¬ k < n
    · have HQ2 : Hid ((-1 : Int) = q) := by
        have h1 := HA.out
        rw [List.drop_eq_nil_of_le (by have := HN.out; omega)] at h1
        have h2 := HQ.out
        rw [if_neg (by simp [idx] at h1 ⊢; omega)] at h2
        exact h2
      clear hbr HA HQ
      go_wp2
      go_ret
      rw [← HQ2.out]
      exact ⟨rfl, HBr.out⟩
    have hlt : k < n := by omega
    obtain ⟨x, hx⟩ : ∃ x, L[k]? = some x := ⟨_, List.getElem?_eq_getElem (by have := HN.out; omega)⟩
    have HA2 : Hid (k + (if (x.1 == p) = true then 0 else idx (L.drop (k + 1)) p + 1) = idx L p) := by have := HA.out; rw [idx_at_drop p hx] at this; exact this
    obtain ⟨g, off, rfl, hcell⟩ := HR.out.at k x hx
    obtain ⟨c0, c1⟩ := hcell wr hbr
    have HC := HF.out x wr hbr
    obtain ⟨pp, s⟩ := x
    simp only at c0 c1 HA2 HC
    obtain ⟨b, hb⟩ : ∃ b, (pp == p) = b := ⟨_, rfl⟩
    rw [hb] at HC HA2
    have HC2 : Hid (Calls Try.prog F #[spV pp s, .pointer (some ⟨X, 0, none⟩)] wr fun e w' => e = .returned (.bool b) ∧ Below wr.heap.size wr w') := HC
    clear hcell hx hbr HA HC hb
    cases b with
    | true =>
      have HQ2 : Hid ((k : Int) = q) := by
        have h1 := HA2.out
        rw [if_pos rfl] at h1
        have h2 := HQ.out
        rw [if_pos (by omega)] at h2
        show _ = _
        omega
      clear HA2 HQ
      go_wp2_with fail
      refine HC2.out.mono ?_
      rintro e u ⟨rfl, hb⟩
      have HB : Hid (Below w.heap.size w u) := bsq HBr.out hb
      clear hb
      go_wp2
      go_ret
      rw [← HQ2.out]
      exact ⟨rfl, HB.out⟩
    | false =>
      have HA3 : Hid (k + 1 + idx (L.drop (k + 1)) p = idx L p) := by
        have h1 := HA2.out
        rw [if_neg (by decide)] at h1
        show _ = _
        omega
      clear HA2
      go_wp2_with fail
      refine HC2.out.mono ?_
      rintro e u ⟨rfl, hb⟩
      have HB : Hid (Below w.heap.size w u) := bsq HBr.out hb
      clear hb
      go_wp2
      go_roundw
      case rel => exact ⟨k + 1, by omega, by go_num, HB.out, HA3.out⟩
      case measure => simp [intOf]; omega
end Go.Proofs.Ytifebinpjpalhab.arena
