/- desc: rows of texts that the call made; what Split answers. -/
import Derived.Test.YtebaepkghbihkaaDescN
import Derived.Test.YtebaepkghbihkaaOwnB
import Derived.Laws.OwnMore
import Derived.Deep.AppendLies
import Derived.OneCell
namespace Go.Proofs.Ytebaepkghbihkaa.desc
open Go.RowKit Go.PlainAid Go.Proofs.Ytebaepkghbihkaa.lane
set_option linter.unusedVariables false

theorem bsq {w w1 w2 : World} (h1 : Below w.heap.size w w1) (h2 : Below w1.heap.size w1 w2) : Below w.heap.size w w2 := h1.trans (h2.mono h1.size)
theorem balloc (w : World) (o : Obj) : Below w.heap.size w (w.alloc o) := (Below.refl _ _).alloc (Nat.le_refl _) _
theorem grown_below {w u : World} (hb : Below w.heap.size w u) : w.grownBy u none := ⟨hb.os, hb.tape, hb.output, hb.size, fun k hk _ => hb.block k hk⟩
theorem own_below {w u : World} {B : Nat} {e : TypeId} {s : Nat} {v : Value} {n : Nat} {xs : List Value} (h : w.ownsRow B e s v n xs) (hb : Below w.heap.size w u) : u.ownsRow B e s v n xs := by
  cases hv : v.ownBlock with
  | none => exact World.ownsRow.kept h (grown_below hb) (.inl hv)
  | some k => exact World.ownsRow.kept h (grown_below hb) (.inr (by rw [hv]; simp))
theorem own_block {w : World} {B : Nat} {e : TypeId} {s : Nat} {v : Value} {n : Nat} {xs : List Value} (h : w.ownsRow B e s v n xs) : ∀ k, v.ownBlock = some k → B ≤ k := fun k hk => (World.ownsRow.lt h k hk).1
theorem own_mono {w : World} {B B' : Nat} {e : TypeId} {s : Nat} {v : Value} {n : Nat} {xs : List Value} (h : w.ownsRow B e s v n xs) (hB : B' ≤ B) : w.ownsRow B' e s v n xs := by
  refine ⟨h.1, ?_⟩
  rcases h.2 with q | ⟨g, cap, cur, hv, hb, q⟩
  · exact .inl q
  · exact .inr ⟨g, cap, cur, hv, Nat.le_trans hB hb, q⟩
theorem own_form {w : World} {B : Nat} {e : TypeId} {s : Nat} {v : Value} {n : Nat} {xs : List Value} (h : w.ownsRow B e s v n xs) : ∃ a c, v = .slice a n c ∧ n ≤ c ∧ c ≤ maxLen := by
  rcases h.2 with ⟨rfl, rfl⟩ | ⟨g, cap, cur, rfl, hb, hg, hn, hm, _⟩
  · exact ⟨none, 0, rfl, Nat.le_refl _, Nat.zero_le _⟩
  · exact ⟨_, _, rfl, hn, hm⟩

theorem infoS : (Try.prog.info? 9).map (fun i => (i.zero, i.size, i.bytes)) = some (some (.string ⟨#[]⟩), 1, 16) := by kernel_rfl
def tcells (ps : List (List Int)) : List Value := ps.map fun p => .string (strOfNums p)
theorem tcells_length (ps : List (List Int)) : (tcells ps).length = ps.length := List.length_map ..
/-- the value v owns these texts, in a block from B on -/
def Txs (w : World) (B : Nat) (v : Value) (ps : List (List Int)) : Prop := w.ownsRow B 9 1 v ps.length (tcells ps)
theorem Txs.nil (w : World) (B : Nat) : Txs w B (.slice none 0 0) [] := ⟨rfl, .inl ⟨rfl, rfl⟩⟩
theorem Txs.below {w u : World} {B : Nat} {v : Value} {ps : List (List Int)} (h : Txs w B v ps) (hb : Below w.heap.size w u) : Txs u B v ps := own_below h hb
theorem Txs.mono {w : World} {B B' : Nat} {v : Value} {ps : List (List Int)} (h : Txs w B v ps) (hB : B' ≤ B) : Txs w B' v ps := own_mono h hB
/-- a text behind texts -/
theorem wpList_txs {ops : Array Oper} {rest : List Oper} {o : Oper} {a : Act} {Q : Exit → Act → World → Prop} (w : World) (hgd : o.guard = none) (s x : Operand)
    (ho : o.op = .call { callee := .builtin .append, args := #[s, x], argTypes := #[27, 27] }) (B : Nat) (v : Value) (ps : List (List Int)) (hs : a.eval s = v) (h : Txs w B v ps)
    (g c : Nat) (p : List Int) (hx : a.eval x = .slice (some ⟨g, 0, none⟩) 1 c) (hc : w.cell? ⟨g, 0, none⟩ = some (.string (strOfNums p))) (hl : ps.length ≤ 1000000) (hB : B ≤ w.heap.size)
    (hK : ∀ v' w', Txs w' B v' (ps ++ [p]) → w.grownBy w' v.ownBlock → Below B w w' → wpList Try.prog ops Q rest (a.put o.dst v') w') : wpList Try.prog ops Q (o :: rest) a w := by
  obtain ⟨i0, hi, hz0, hz1, hz2⟩ := info_parts infoS
  refine wpList_append_own w hgd s x 27 ho B 9 i0 _ 1 16 Try.underlying27 hi hz0 hz1 hz2 rfl (by omega) v ps.length (tcells ps) hs h ⟨g, 0, none⟩ 1 c [.string (strOfNums p)] hx rfl ?_ (by simp [Value.oneCell']) (by unfold maxLen; omega) (by omega) hB ?_
  · intro j u hj
    match j, hj with
    | 0, hj => simp at hj; subst hj; simpa [Addr.add] using hc
    | (j + 1), hj => simp at hj
  · intro v' w' h1 h2 _
    refine hK v' w' ?_ h2 ((Below.refl _ _).grown h2 hB (own_block h))
    unfold Txs
    rw [List.length_append, show tcells (ps ++ [p]) = tcells ps ++ [.string (strOfNums p)] by simp [tcells]]
    exact h1

def strLen : Value → Nat
  | .string b => b.size
  | _ => 0
theorem extract_front (t : ByteArray) (n : Nat) : t.extract 0 n = strOfNums ((nums t).take n) := by
  rw [← str_nums (t.extract 0 n), nums_extract, List.drop_zero]
theorem extract_rest (t : ByteArray) (n : Nat) : nums (t.extract n t.size) = (nums t).drop n := by
  rw [nums_extract, List.take_of_length_le (by rw [nums_length]; omega)]
theorem nums_head (t : ByteArray) (h : 0 < t.size) : ∃ r, nums t = bt t 0 :: r := by
  have := drop_nums t 0 h
  rw [List.drop_zero] at this
  exact ⟨_, this⟩
/-- what Split answers -/
def splC (l : List Int) : Int := if 512 < l.length then 2 else (splitL l).1
def splP (l : List Int) : List (List Int) := if 512 < l.length then [] else (splitL l).2
theorem splP_err {l : List Int} (h : splC l ≠ 0) : splP l = [] := by
  unfold splC at h; unfold splP
  split
  · rfl
  · rename_i hl; rw [if_neg hl] at h; exact split_err h
theorem ret_pair {v : Value} {a b : Int} (h : a = b) : Ending.returned (.tuple #[v, .int .i64 a]) = .returned (.tuple #[v, .int .i64 b]) := by rw [h]

set_option maxRecDepth 100000 in
set_option maxHeartbeats 1000000 in
theorem split_any (s : ByteArray) (w : World) (hs : s.size ≤ maxLen) :
    Calls Try.prog 43 #[.string s] w fun e w' => ∃ v, e = .returned (.tuple #[v, .int .i64 (splC (nums s))]) ∧ Txs w' w.heap.size v (splP (nums s)) ∧ Below w.heap.size w w' := by
  unfold maxLen at hs
  have hl := nums_length s
  by_cases hbig : 512 < s.size
  · have e1 : splC (nums s) = 2 := by unfold splC; rw [if_pos (by omega)]
    have e2 : splP (nums s) = [] := by unfold splP; rw [if_pos (by omega)]
    rw [e1, e2]
    clear e1 e2 hl
    go_enter Try.func43, Try.ntmps43
    go_wp2
    go_ret2
    exact ⟨_, rfl, Txs.nil _ _, Below.refl _ _⟩
  · have e1 : splC (nums s) = (splitL (nums s)).1 := by unfold splC; rw [if_neg (by omega)]
    have e2 : splP (nums s) = (splitL (nums s)).2 := by unfold splP; rw [if_neg (by omega)]
    rw [e1, e2]
    clear e1 e2 hl
    go_enter Try.func43, Try.ntmps43
    go_wp2
    go_loopw [0, 4] (fun sv pv wr => ∃ (t : ByteArray) (acc : List (List Int)), sv = .string t ∧ acc.length + t.size ≤ 512 ∧ Txs wr w.heap.size pv acc ∧ Below w.heap.size w wr ∧ Hid (ahd acc (splitL (nums t)) = splitL (nums s)))
      (fun sv _ _ => strLen sv)
    case atStart => exact ⟨s, [], rfl, by simp; omega, Txs.nil _ _, Below.refl _ _, ahd_nil _⟩
    case round =>
      obtain ⟨t, acc, rfl, hz, HT, hb, HR⟩ := hrel
      by_cases ht : 0 < t.size
      · have hfull := str_full t ht
        have hbt := get_bt t
        obtain ⟨r, hr⟩ := nums_head t ht
        have h0 := bt_nonneg t 0
        have h1 := bt_le t 0
        obtain ⟨n, hn⟩ : ∃ n : Nat, bt t 0 = (n : Int) := ⟨(bt t 0).toNat, by omega⟩
        have hlen := nums_length t
        have hnb : n ≤ 255 := by omega
        have hR := HR.out
        rw [hr, hn] at hR hlen
        by_cases h2 : n < 2
        · rw [split_form _ _ (by omega)] at hR
          have HH : Hid (((4 : Int), ([] : List (List Int))) = splitL (nums s)) := hR
          clear HR hR hr hlen h0 h1
          go_wp2
          go_ret2
          rw [← HH.out]
          exact ⟨_, rfl, Txs.nil _ _, hb⟩
        by_cases h3 : t.size < n
        · rw [split_short _ _ (by omega) (by omega)] at hR
          have HH : Hid (((3 : Int), ([] : List (List Int))) = splitL (nums s)) := hR
          clear HR hR hr hlen h0 h1
          go_wp2
          go_ret2
          rw [← HH.out]
          exact ⟨_, rfl, Txs.nil _ _, hb⟩
        rw [split_step _ _ (by omega) (by omega), ahd_ahd, ← hn, ← hr, hn, Int.toNat_natCast, ← extract_rest] at hR
        have HH : Hid (ahd (acc ++ [(nums t).take n]) (splitL (nums (t.extract n t.size))) = splitL (nums s)) := hR
        have hxz : (t.extract n t.size).size = t.size - n := by rw [ByteArray.size_extract]; omega
        have hxf := extract_front t n
        obtain ⟨q, hq⟩ : ∃ q, q = (nums t).take n := ⟨_, rfl⟩
        rw [← hq] at hxf HH
        have HX : Hid (Txs wr w.heap.size u4 acc) := HT
        have HB : Hid (Below w.heap.size w wr) := hb
        have hsz := hb.size
        clear HR hR hr hlen h0 h1 hq HT hb
        go_wp2_with (at_builtin; (refine wpList_txs _ rfl _ _ rfl w.heap.size _ acc rfl (World.ownsRow.alloc HX.out _) wr.heap.size 1 q rfl ?c1 (by omega) (by simp; omega) ?_))
        case c1 => rw [← hxf]; simp
        intro v' w2 ht2 hg2 hb2
        have HX2 : Hid (Txs w2 w.heap.size v' (acc ++ [q])) := ht2
        have HB2 : Hid (Below w.heap.size w w2) := (HB.out.alloc (by omega) _).trans hb2
        clear ht2 hg2 hb2 HX HB
        go_wp2
        go_roundw
        case rel => exact ⟨_, _, rfl, by rw [List.length_append]; simp; omega, HX2.out, HB2.out, HH.out⟩
        case measure => simp [strLen]; omega
      · have hz0 : t = ⟨#[]⟩ := by apply ByteArray.ext; exact Array.eq_empty_of_size_eq_zero (by have : t.data.size = t.size := rfl; omega)
        subst hz0
        have hR := HR.out
        have e0 : nums ⟨#[]⟩ = [] := rfl
        rw [e0, split_nil] at hR
        have HH : Hid (ahd acc ((0 : Int), ([] : List (List Int))) = splitL (nums s)) := hR
        have HX : Hid (Txs wr w.heap.size u4 acc) := HT
        have HB : Hid (Below w.heap.size w wr) := hb
        clear HR hR HT hb e0
        go_wp2
        go_ret2
        rw [← HH.out]
        refine ⟨_, rfl, ?_, HB.out⟩
        have : (ahd acc ((0 : Int), ([] : List (List Int)))).2 = acc := by simp [ahd]
        rw [this]; exact HX.out
end Go.Proofs.Ytebaepkghbihkaa.desc
