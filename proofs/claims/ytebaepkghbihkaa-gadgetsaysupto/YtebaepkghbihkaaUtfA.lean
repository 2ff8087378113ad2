/- utf: what appendUnit, appendRune and Wide answer. -/
import Derived.Test.YtebaepkghbihkaaUtfM
import Derived.Test.YtebaepkghbihkaaOwnB
import Derived.Laws.BitsAllLaws
import Derived.Lib.OthersKept
namespace Go.Proofs.Ytebaepkghbihkaa.utf
open Go.RowKit Go.PlainAid Go.Lib Go.Proofs.Ytebaepkghbihkaa.lane

theorem Bys.two {w1 : World} {B : Nat} {v : Value} {acc : List Int} {x y : Int}
    (h : w1.ownsRow B 5 1 v (acc.length + 2) (acc.map (Value.int .u8) ++ [.int .u8 x, .int .u8 y])) : Bys w1 B v (acc ++ [x, y]) := by
  unfold Bys
  simpa using h

set_option maxHeartbeats 1000000 in
theorem appendUnit_any (B : Nat) (v : Value) (acc : List Int) (u : Int) (h0 : 0 ≤ u) (h1 : u ≤ 65535) (w : World) (H : Hid (Bys w B v acc)) (hB : B ≤ w.heap.size) (hl : acc.length ≤ 1000) :
    Calls Try.prog 101 #[v, .int .i32 u] w fun e w' => ∃ v', e = .returned v' ∧ Bys w' B v' (acc ++ [u % 256, u / 256]) ∧ Below B w w' := by
  obtain ⟨i0, hi, hz0, hz1, hz2⟩ := info_parts infoB
  go_enter Try.func101, Try.ntmps101
  go_wp2_with (at_builtin; (refine wpList_append_own _ rfl _ _ 56 rfl B 5 i0 (.int .u8 0) 1 1 Try.underlying56 hi hz0 hz1 hz2 rfl (by omega) _ acc.length (acc.map (Value.int .u8)) rfl (World.ownsRow.alloc H.out _) ⟨w.heap.size, 0, none⟩ 2 2 [.int .u8 (u % 256), .int .u8 (u / 256)] rfl rfl ?c1 ?c2 ?c3 ?c4 ?c5 ?_))
  case c1 =>
    intro j x hj
    match j, hj with
    | 0, hj => simp at hj; subst hj; simp [Addr.add]; skip
    | 1, hj => simp at hj; subst hj; simp [Addr.add]; skip
    | (j + 2), hj => simp at hj
  case c2 => intro x hx; simp at hx; rcases hx with rfl | rfl <;> rfl
  case c3 => unfold maxLen; omega
  case c4 => omega
  case c5 => simp; omega
  intro v' w2 hown' hgrow _
  go_wp2
  go_ret
  exact ⟨_, rfl, Bys.two hown', ((Below.refl _ _).alloc hB _).grown hgrow (by simp; omega) H.out.block⟩

theorem wrap_i32_nat (n : Nat) (h : n < 2147483648) : IntKind.i32.wrap (n : Int) = (n : Int) := by
  have e : (n : Int) % 2 ^ 32 = n := Int.emod_eq_of_lt (by omega) (by omega)
  simp only [IntKind.wrap, IntKind.bits, IntKind.signed, e]
  rw [if_neg]
  simp
  omega
theorem and1023 (x : Int) (h0 : 0 ≤ x) (h1 : x ≤ 1048575) : bits .and .i32 x 1023 = x % 1024 := by
  obtain ⟨n, rfl⟩ : ∃ n : Nat, x = (n : Int) := ⟨x.toNat, by omega⟩
  show IntKind.i32.wrap ((BitVec.ofInt 32 (n : Int) &&& BitVec.ofInt 32 ((1023 : Nat) : Int)).toNat : Int) = _
  rw [BitVec.toNat_and, BitVec.ofInt_natCast, BitVec.ofInt_natCast, BitVec.toNat_ofNat, BitVec.toNat_ofNat, Nat.mod_eq_of_lt (show n < 2 ^ 32 by omega), Nat.mod_eq_of_lt (show 1023 < 2 ^ 32 by omega),
    show n &&& 1023 = n % 1024 from Nat.and_two_pow_sub_one_eq_mod n 10, wrap_i32_nat _ (by omega)]
  omega

set_option maxHeartbeats 1000000 in
theorem appendRune_any (B : Nat) (v : Value) (acc : List Int) (r : Int) (hr : okR r) (w : World) (H : Hid (Bys w B v acc)) (hB : B ≤ w.heap.size) (hl : acc.length ≤ 900) :
    Calls Try.prog 79 #[v, .int .i32 r] w fun e w' => ∃ v', e = .returned v' ∧ Bys w' B v' (acc ++ wu r) ∧ Below B w w' := by
  unfold okR at hr
  by_cases h1 : r < 65536
  · rw [wu_one h1]
    have h0 : 0 ≤ r := by omega
    have HR : Hid ((0 ≤ r ∧ r < 55296) ∨ (57344 ≤ r ∧ r ≤ 1114111)) := hr
    clear hr
    go_enter Try.func79, Try.ntmps79
    go_wp2_with (go_at_call 101; refine (appendUnit_any B _ acc r (by omega) (by omega) _ H hB (by omega)).mono ?_; rintro e w' ⟨v', rfl, h2, h3⟩)
    go_ret
    exact ⟨_, rfl, h2, h3⟩
  · rw [wu_two h1]
    obtain ⟨q, hq⟩ : ∃ q, q = r - 65536 := ⟨_, rfl⟩
    have hq0 : 0 ≤ q := by omega
    have hq1 : q ≤ 1048575 := by omega
    have hand := and1023 q hq0 hq1
    rw [← hq]
    clear hr
    obtain rfl : r = q + 65536 := by omega
    clear hq
    go_enter Try.func79, Try.ntmps79
    go_wp2_with fail
    refine (appendUnit_any B _ acc _ (by omega) (by omega) _ H hB (by omega)).mono ?_
    rintro e w1 ⟨v1, rfl, h2, h3⟩
    have H2 : Hid (Bys w1 B v1 (acc ++ [(55296 + q / 1024) % 256, (55296 + q / 1024) / 256])) := h2
    clear h2
    go_wp2_with fail
    refine (appendUnit_any B _ _ _ (by omega) (by omega) _ H2 (by have := h3.size; omega) (by rw [List.length_append]; simp; omega)).mono ?_
    rintro e w2 ⟨v2, rfl, h4, h5⟩
    go_wp2
    go_ret
    rw [List.append_assoc] at h4
    exact ⟨_, rfl, h4, h3.trans h5⟩
end Go.Proofs.Ytebaepkghbihkaa.utf
