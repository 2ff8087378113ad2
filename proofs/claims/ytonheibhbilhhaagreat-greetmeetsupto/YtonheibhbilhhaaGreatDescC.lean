/- plugref's desc: what Split answers. -/
import Derived.Test.YtonheibhbilhhaaGreatZAc
import Derived.Laws.Strings2
namespace Go.Proofs.YtonheibhbilhhaaGreat.desc
open Go.RowKit Go.PlainAid Go.Proofs.YtonheibhbilhhaaGreat.lane
set_option linter.unusedVariables false
theorem infoI : (Tryz.prog.info? 3).map (fun i => (i.zero, i.size, i.bytes)) = some (some (.int .i64 0), 1, 8) := by kernel_rfl
def Igs (w : World) (B : Nat) (v : Value) (us : List Int) : Prop := w.ownsRow B 3 1 v us.length (us.map (Value.int .i64))
theorem Igs.below {w u : World} {B : Nat} {v : Value} {us : List Int} (h : Igs w B v us) (hb : Below w.heap.size w u) : Igs u B v us := own_below h hb
theorem wpList_igs {ops : Array Oper} {rest : List Oper} {o : Oper} {a : Act} {Q : Exit → Act → World → Prop} (w : World) (hgd : o.guard = none) (s x : Operand)
  (ho : o.op = .call { callee := .builtin .append, args := #[s, x], argTypes := #[30, 30] }) (B : Nat) (v : Value) (us : List Int) (hs : a.eval s = v) (h : Igs w B v us)
  (g c : Nat) (z : Int) (hx : a.eval x = .slice (some ⟨g, 0, none⟩) 1 c) (hc : w.cell? ⟨g, 0, none⟩ = some (.int .i64 z)) (hl : us.length ≤ 1000000) (hB : B ≤ w.heap.size)
  (hK : ∀ v' w', Igs w' B v' (us ++ [z]) → w.grownBy w' v.ownBlock → Below B w w' → wpList Tryz.prog ops Q rest (a.put o.dst v') w') : wpList Tryz.prog ops Q (o :: rest) a w := by
 obtain ⟨i0, hi, hz0, hz1, hz2⟩ := info_parts infoI
 refine wpList_append_own w hgd s x 30 ho B 3 i0 _ 1 8 Tryz.underlying30 hi hz0 hz1 hz2 rfl (by omega) v us.length (us.map (Value.int .i64)) hs h ⟨g, 0, none⟩ 1 c [.int .i64 z] hx rfl ?_ (by simp [Value.oneCell']) (by unfold maxLen; omega) (by omega) hB ?_
 ·intro j u hj
  match j, hj with
  | 0, hj => simp at hj; subst hj; simpa [Addr.add] using hc
  | (j + 1), hj => simp at hj
 ·intro v' w' h1 h2 _
  refine hK v' w' ?_ h2 ((Below.refl _ _).grown h2 hB (own_block h))
  unfold Igs
  rw [List.length_append, List.map_append]
  exact h1
def cuts (l : List Int) (e : Nat) : List Nat → List (List Int)
 | [] => []
 | a :: r => (l.take (r.headD e)).drop a :: cuts l e r
theorem cuts_snoc (l : List Int) (k k' : Nat) : ∀ acc : List Nat, cuts l k' (acc ++ [k]) = cuts l k acc ++ [(l.take k').drop k] := by
 intro acc
 induction acc with
 | nil => rfl
 | cons a r ih =>
  rw [List.cons_append, cuts, ih, cuts]
  congr 2
  cases r <;> rfl
def Ups (e : Nat) : List Nat → Prop
 | [] => True
 | a :: r => a ≤ r.headD e ∧ r.headD e ≤ e ∧ Ups e r
theorem ups_snoc {k k' : Nat} (h : k ≤ k') : ∀ {acc : List Nat}, Ups k acc → Ups k' (acc ++ [k]) := by
 intro acc
 induction acc with
 | nil => intro _; exact ⟨h, Nat.le_refl _, trivial⟩
 | cons a r ih =>
  rintro ⟨h1, h2, h3⟩
  refine ⟨?_, ?_, ih h3⟩
  ·cases r <;> exact h1
  ·cases r with
   | nil => exact h
   | cons b r => exact Nat.le_trans h2 h
theorem ups_at {e : Nat} : ∀ (acc : List Nat) (j a : Nat), Ups e acc → acc[j]? = some a → a ≤ (acc.drop (j + 1)).headD e ∧ (acc.drop (j + 1)).headD e ≤ e := by
 intro acc
 induction acc with
 | nil => intro j a _ h; simp at h
 | cons b r ih =>
  intro j a hu h
  cases j with
  | zero => simp at h; subst h; exact ⟨hu.1, hu.2.1⟩
  | succ j => exact ih j a hu.2.2 (by simpa using h)
theorem cuts_at (l : List Int) (e : Nat) : ∀ (acc : List Nat) (j a : Nat), acc[j]? = some a → cuts l e (acc.drop j) = (l.take ((acc.drop (j + 1)).headD e)).drop a :: cuts l e (acc.drop (j + 1)) := by
 intro acc j a h
 have hj := (List.getElem?_eq_some_iff.1 h)
 rw [List.drop_eq_getElem_cons hj.1, hj.2, cuts]
theorem headD_drop (acc : List Nat) (j e : Nat) : (acc.drop j).headD e = (acc[j]?).getD e := by
 rw [List.headD_eq_head?_getD, List.head?_drop]
set_option maxRecDepth 100000 in
set_option maxHeartbeats 4000000 in
theorem rsplit_any (s : ByteArray) (w : World) (hs : s.size ≤ maxLen) :
  Calls Tryz.prog 110 #[.string s] w fun e w' => ∃ v, e = .returned (.tuple #[v, .int .i64 (splC (nums s))]) ∧ Txs w' w.heap.size v (splP (nums s)) ∧ Below w.heap.size w w' := by
 unfold maxLen at hs
 have hl := nums_length s
 by_cases hbig : 512 < s.size
 ·have e1 : splC (nums s) = 2 := by unfold splC; rw [if_pos (by omega)]
  have e2 : splP (nums s) = [] := by unfold splP; rw [if_pos (by omega)]
  rw [e1, e2]
  clear e1 e2 hl
  go_enter Tryz.func110, Tryz.ntmps110
  go_wp2
  go_ret2
  exact ⟨_, rfl, Txs.nil _ _, Below.refl _ _⟩
 ·have e1 : splC (nums s) = (splitL (nums s)).1 := by unfold splC; rw [if_neg (by omega)]
  have e2 : splP (nums s) = (splitL (nums s)).2 := by unfold splP; rw [if_neg (by omega)]
  rw [e1, e2]
  have hbt := get_bt s
  clear e1 e2 hl
  go_enter Tryz.func110, Tryz.ntmps110
  go_wp2
  go_loopw [4, 5] (fun sv av wr => ∃ (k : Nat) (acc : List Nat), k ≤ s.size ∧ acc.length ≤ k ∧ av = .int .i64 (k : Int) ∧ Igs wr w.heap.size sv (acc.map (fun n : Nat => (n : Int))) ∧ Below w.heap.size w wr ∧ Hid (Ups k acc) ∧ Hid (ahd (cuts (nums s) k acc) (splitL ((nums s).drop k)) = splitL (nums s)))
   (fun _ av _ => s.size - (intOf av).toNat)
  case atStart => exact ⟨0, [], Nat.zero_le _, Nat.zero_le _, rfl, World.ownsRow_made w #[] 0 (Nat.le_refl _) (Nat.zero_le _) rfl, balloc _ _, trivial, ahd_nil _⟩
  case round =>
   obtain ⟨k, acc, hk, hal, rfl, HT, hb, HU, HR⟩ := hrel
   by_cases hlt : k < s.size
   ·have hr := drop_nums s k hlt
    have h0 := bt_nonneg s k
    have h1 := bt_le s k
    obtain ⟨n, hn⟩ : ∃ n : Nat, bt s k = (n : Int) := ⟨(bt s k).toNat, by omega⟩
    have hlen : ((nums s).drop k).length = s.size - k := by rw [List.length_drop, nums_length]
    have hnb : n ≤ 255 := by omega
    have hR := HR.out
    rw [hr, hn] at hR hlen
    by_cases h2 : n < 2
    ·rw [split_form _ _ (by omega)] at hR
     have HH : Hid (((4 : Int), ([] : List (List Int))) = splitL (nums s)) := hR
     clear HR hR hr hlen h0 h1
     go_wp2
     go_ret2
     rw [← HH.out]
     exact ⟨_, rfl, Txs.nil _ _, hb⟩
    by_cases h3 : s.size - k < n
    ·rw [split_short _ _ (by omega) (by omega)] at hR
     have HH : Hid (((3 : Int), ([] : List (List Int))) = splitL (nums s)) := hR
     clear HR hR hr hlen h0 h1
     go_wp2
     go_ret2
     rw [← HH.out]
     exact ⟨_, rfl, Txs.nil _ _, hb⟩
    have hcs : (nums s).take (k + n) = (nums s).take k ++ ((nums s).drop k).take n := by
     rw [List.take_add]
    rw [split_step _ _ (by omega) (by omega), ahd_ahd, ← hn, ← hr, hn, Int.toNat_natCast, List.drop_drop] at hR
    have hpc : ((nums s).drop k).take n = ((nums s).take (k + n)).drop k := by rw [List.drop_take]; congr 1; omega
    rw [hpc, ← cuts_snoc] at hR
    have HH : Hid (ahd (cuts (nums s) (k + n) (acc ++ [k])) (splitL ((nums s).drop (k + n))) = splitL (nums s)) := hR
    have HU2 : Hid (Ups (k + n) (acc ++ [k])) := ups_snoc (by omega) HU.out
    have HX : Hid (Igs wr w.heap.size u4 (acc.map (fun n : Nat => (n : Int)))) := HT
    have HB : Hid (Below w.heap.size w wr) := hb
    have hsz := hb.size
    clear HR hR hr hlen h0 h1 HT hb hcs hpc HU
    go_wp2_with (at_builtin; (refine wpList_igs _ rfl _ _ rfl w.heap.size _ (acc.map (fun n : Nat => (n : Int))) rfl (World.ownsRow.alloc HX.out _) wr.heap.size 1 (k : Int) rfl (by simp) (by rw [List.length_map]; omega) (by simp; omega) ?_))
    intro v' w2 ht2 hg2 hb2
    have HX2 : Hid (Igs w2 w.heap.size v' ((acc ++ [k]).map (fun n : Nat => (n : Int)))) := by
     show Igs _ _ _ _
     rw [List.map_append]; exact ht2
    have HB2 : Hid (Below w.heap.size w w2) := (HB.out.alloc (by omega) _).trans hb2
    clear ht2 hg2 hb2 HX HB
    go_wp2
    go_roundw
    case rel => exact ⟨k + n, acc ++ [k], by omega, by rw [List.length_append]; simp; omega, by go_num, HX2.out, HB2.out, HU2, HH⟩
    case measure => simp [intOf]; omega
   ·obtain rfl : k = s.size := by omega
    have hR := HR.out
    rw [drop_end s s.size (Nat.le_refl _), split_nil] at hR
    have HF : Hid (splitL (nums s) = (0, cuts (nums s) s.size acc)) := by
     show _ = _
     rw [← hR]; simp [ahd]
    obtain ⟨a, c, rfl, hlc, hcm, hz3, hcl⟩ := Rdg.of HT
    rw [List.length_map] at hlc hcl ⊢
    have HC : Hid (∀ (W : World), Below wr.heap.size wr W → ∀ (j x : Nat), acc[j]? = some x → ∃ g off, a = some ⟨g, off, none⟩ ∧ W.cell? ⟨g, off + j, none⟩ = some (.int .i64 (x : Int))) := by
     intro W hW j x hx
     have hj := (List.getElem?_eq_some_iff.1 hx).1
     obtain ⟨g, off, ha, hg, hc⟩ := hcl (by omega)
     exact ⟨g, off, ha, (hW.cell (p := ⟨g, off + j, none⟩) hg).trans (hc j _ (by simp [hx]))⟩
    have HB : Hid (Below w.heap.size w wr) := hb
    have hsz := hb.size
    obtain ⟨m, hm⟩ : ∃ m, acc.length = m := ⟨_, rfl⟩
    have HM : Hid (acc.length = m) := hm
    have hm5 : m ≤ 512 := by omega
    unfold maxLen at hcm
    rw [hm] at hlc ⊢
    clear HR hR HT hb hcl hm hz3 hal
    rename World => wo
    go_wp2
    go_loopw [6, 43] (fun ov iv wq => ∃ (j : Nat) (ot : List (List Int)), j ≤ m ∧ iv = .int .i64 (j : Int) ∧ ot.length = j ∧ Txs wq wo.heap.size ov ot ∧ Below wo.heap.size wo wq ∧ Hid (ot ++ cuts (nums s) s.size (acc.drop j) = cuts (nums s) s.size acc)) (fun _ iv _ => m - (intOf iv).toNat)
    case atStart => exact ⟨0, [], Nat.zero_le _, rfl, rfl, Txs.nil _ _, Below.refl _ _, rfl⟩
    case round =>
     obtain ⟨j, ot, hj, rfl, hot, HT, hbq, HR⟩ := hrel
     have HX : Hid (Txs wr wo.heap.size u6 ot) := HT
     have HBq : Hid (Below wo.heap.size wo wr) := hbq
     have hsq := hbq.size
     by_cases hlt : j < m
     ·have hj1 : j < acc.length := by have := HM.out; omega
      obtain ⟨x, hx⟩ : ∃ x, acc[j]? = some x := ⟨acc[j], List.getElem?_eq_getElem hj1⟩
      obtain ⟨g, off, rfl, c1⟩ := HC.out wr hbq j x hx
      obtain ⟨up1, up2⟩ := ups_at acc j x HU.out hx
      have hR := HR.out
      rw [cuts_at _ _ acc j x hx] at hR
      obtain ⟨e, he⟩ : ∃ e, (acc.drop (j + 1)).headD s.size = e := ⟨_, rfl⟩
      rw [he] at up1 up2 hR
      obtain ⟨q, hq⟩ : ∃ q, ((nums s).take e).drop x = q := ⟨_, rfl⟩
      rw [hq, List.append_cons] at hR
      have HH : Hid (ot ++ [q] ++ cuts (nums s) s.size (acc.drop (j + 1)) = cuts (nums s) s.size acc) := hR
      have hxq : s.extract x e = strOfNums q := by rw [← hq, ← nums_extract, str_nums]
      have hsl : ∀ W : World, (Instr.slice 9 (.string s) (some (.int .i64 (x : Int))) (some (.int .i64 (e : Int))) none).run Tryz.prog W = .ok (.string (strOfNums q)) W := fun W => by
       have := run_slice_string (P := Tryz.prog) (w := W) 9 s .i64 .i64 (x : Int) (e : Int) Tryz.underlying9 (by omega) (by omega) (by omega)
       rw [Int.toNat_natCast, Int.toNat_natCast, hxq] at this
       exact this
      have hon : ot.length ≤ 512 := by omega
      rw [headD_drop] at he
      clear HR hR hq hxq HT hbq
      by_cases hl2 : j + 1 < m
      ·obtain ⟨y, hy⟩ : ∃ y, acc[j + 1]? = some y := ⟨acc[j + 1]'(by have := HM.out; omega), List.getElem?_eq_getElem _⟩
       obtain rfl : y = e := by rw [hy] at he; simpa using he
       obtain ⟨g', off', hg', c2⟩ := HC.out wr HBq.out (j + 1) y hy
       obtain ⟨rfl, rfl⟩ : g = g' ∧ off = off' := by injection hg' with hg'; injection hg' with h1 h2; exact ⟨h1, h2⟩
       obtain ⟨J, hJ⟩ : ∃ J, j + 1 = J := ⟨_, rfl⟩
       have hJi : (j : Int) + 1 = (J : Int) := by omega
       have HH : Hid (ot ++ [q] ++ cuts (nums s) s.size (acc.drop J) = cuts (nums s) s.size acc) := by rw [← hJ]; exact HH.out
       rw [hJ] at c2 hl2
       have HJ : Hid (j + 1 = J) := hJ
       clear hJ
       clear HC hx hy he HU hg'
       go_wp2_with (at_builtin; (refine wpList_txs _ rfl _ _ rfl wo.heap.size _ ot rfl (World.ownsRow.alloc HX.out _) wr.heap.size 1 q rfl (by simp) (by omega) (by simp; omega) ?_))
       intro v' w2 ht2 hg2 hb2
       have HX2 : Hid (Txs w2 wo.heap.size v' (ot ++ [q])) := ht2
       have HB2 : Hid (Below wo.heap.size wo w2) := (HBq.out.alloc (by omega) _).trans hb2
       clear ht2 hg2 hb2 HX HBq
       go_wp2
       go_roundw
       case rel => exact ⟨J, ot ++ [q], by omega, rfl, by have := HJ.out; rw [List.length_append, hot]; exact this, HX2.out, HB2.out, HH⟩
       case measure => have := HJ.out; simp [intOf]; omega
      ·obtain rfl : s.size = e := by rw [List.getElem?_eq_none (by have := HM.out; omega)] at he; simpa using he
       clear HC hx he HU
       go_wp2_with (at_builtin; (refine wpList_txs _ rfl _ _ rfl wo.heap.size _ ot rfl (World.ownsRow.alloc HX.out _) wr.heap.size 1 q rfl (by simp) (by omega) (by simp; omega) ?_))
       intro v' w2 ht2 hg2 hb2
       have HX2 : Hid (Txs w2 wo.heap.size v' (ot ++ [q])) := ht2
       have HB2 : Hid (Below wo.heap.size wo w2) := (HBq.out.alloc (by omega) _).trans hb2
       clear ht2 hg2 hb2 HX HBq
       go_wp2
       go_roundw
       case rel => exact ⟨j + 1, ot ++ [q], by omega, by go_num, by rw [List.length_append, hot]; rfl, HX2.out, HB2.out, HH⟩
       case measure => simp [intOf]; omega
     ·have hR := HR.out
      rw [List.drop_eq_nil_of_le (by have := HM.out; omega), cuts, List.append_nil] at hR
      have HH : Hid (splitL (nums s) = (0, ot)) := by show _ = _; rw [HF.out, hR]
      clear HC HU HF HR hR HT hbq
      go_wp2
      go_ret2
      rw [HH.out]
      exact ⟨_, rfl, HX.out.mono (by omega), bsq HB.out HBq.out⟩
end Go.Proofs.YtonheibhbilhhaaGreat.desc
