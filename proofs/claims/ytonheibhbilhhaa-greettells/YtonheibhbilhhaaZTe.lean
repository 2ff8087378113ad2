/- plugref's desc: what Split answers. -/
import Derived.Test.YtonheibhbilhhaaZAc
import Derived.Laws.Strings2
import Derived.Test.YtonheibhbilhhaaDescZ
import Derived.Test.YtonheibhbilhhaaZBd
import Derived.Test.YtonheibhbilhhaaZAg
import Derived.Test.YtonheibhbilhhaaZTb
import Derived.Test.YtonheibhbilhhaaZTd
import Derived.Deep.Cut
namespace Go.Proofs.Ytonheibhbilhhaa.desc
open Go.RowKit Go.PlainAid Go.Proofs.Ytonheibhbilhhaa.lane
set_option linter.unusedVariables false

theorem infoI : (Try.prog.info? 3).map (fun i => (i.zero, i.size, i.bytes)) = some (some (.int .i64 0), 1, 8) := by kernel_rfl
/-- the value v owns these integers, in a block from B on -/
def Igs (w : World) (B : Nat) (v : Value) (us : List Int) : Prop := w.ownsRow B 3 1 v us.length (us.map (Value.int .i64))
theorem Igs.below {w u : World} {B : Nat} {v : Value} {us : List Int} (h : Igs w B v us) (hb : Below w.heap.size w u) : Igs u B v us := own_below h hb
/-- an integer behind integers -/
theorem wpList_igs {ops : Array Oper} {rest : List Oper} {o : Oper} {a : Act} {Q : Exit → Act → World → Prop} (w : World) (hgd : o.guard = none) (s x : Operand)
    (ho : o.op = .call { callee := .builtin .append, args := #[s, x], argTypes := #[43, 43] }) (B : Nat) (v : Value) (us : List Int) (hs : a.eval s = v) (h : Igs w B v us)
    (g c : Nat) (z : Int) (hx : a.eval x = .slice (some ⟨g, 0, none⟩) 1 c) (hc : w.cell? ⟨g, 0, none⟩ = some (.int .i64 z)) (hl : us.length ≤ 1000000) (hB : B ≤ w.heap.size)
    (hK : ∀ v' w', Igs w' B v' (us ++ [z]) → w.grownBy w' v.ownBlock → Below B w w' → wpList Try.prog ops Q rest (a.put o.dst v') w') : wpList Try.prog ops Q (o :: rest) a w := by
  obtain ⟨i0, hi, hz0, hz1, hz2⟩ := info_parts infoI
  refine wpList_append_own w hgd s x 43 ho B 3 i0 _ 1 8 Try.underlying43 hi hz0 hz1 hz2 rfl (by omega) v us.length (us.map (Value.int .i64)) hs h ⟨g, 0, none⟩ 1 c [.int .i64 z] hx rfl ?_ (by simp [Value.oneCell']) (by unfold maxLen; omega) (by omega) hB ?_
  · intro j u hj
    match j, hj with
    | 0, hj => simp at hj; subst hj; simpa [Addr.add] using hc
    | (j + 1), hj => simp at hj
  · intro v' w' h1 h2 _
    refine hK v' w' ?_ h2 ((Below.refl _ _).grown h2 hB (own_block h))
    unfold Igs
    rw [List.length_append, List.map_append]
    exact h1
/-- the pieces that begin at these places -/
def cuts (l : List Int) (e : Nat) : List Nat → List (List Int)
  | [] => []
  | a :: r => (l.take (r.headD e)).drop a :: cuts l e r
theorem cuts_snoc (l : List Int) (k k' : Nat) : ∀ acc : List Nat, cuts l k' (acc ++ [k]) = cuts l k acc ++ [(l.take k').drop k] := by
  intro acc
  induction acc with
  | nil => rfl
  | cons a r ih =>
    rw [List.cons_append, cuts, ih, cuts]
    congr 2
    cases r <;> rfl
theorem cuts_length (l : List Int) (e : Nat) : ∀ acc : List Nat, (cuts l e acc).length = acc.length := by
  intro acc
  induction acc with
  | nil => rfl
  | cons a r ih => rw [cuts, List.length_cons, ih, List.length_cons]
/-- each place is at most the next one -/
def Ups (e : Nat) : List Nat → Prop
  | [] => True
  | a :: r => a ≤ r.headD e ∧ r.headD e ≤ e ∧ Ups e r
theorem ups_snoc {k k' : Nat} (h : k ≤ k') : ∀ {acc : List Nat}, Ups k acc → Ups k' (acc ++ [k]) := by
  intro acc
  induction acc with
  | nil => intro _; exact ⟨h, Nat.le_refl _, trivial⟩
  | cons a r ih =>
    rintro ⟨h1, h2, h3⟩
    refine ⟨?_, ?_, ih h3⟩
    · cases r <;> exact h1
    · cases r with
      | nil => exact h
      | cons b r => exact Nat.le_trans h2 h
theorem ups_at {e : Nat} : ∀ (acc : List Nat) (j a : Nat), Ups e acc → acc[j]? = some a → a ≤ (acc.drop (j + 1)).headD e ∧ (acc.drop (j + 1)).headD e ≤ e := by
  intro acc
  induction acc with
  | nil => intro j a _ h; simp at h
  | cons b r ih =>
    intro j a hu h
    cases j with
    | zero => simp at h; subst h; exact ⟨hu.1, hu.2.1⟩
    | succ j => exact ih j a hu.2.2 (by simpa using h)
theorem cuts_at (l : List Int) (e : Nat) : ∀ (acc : List Nat) (j a : Nat), acc[j]? = some a → cuts l e (acc.drop j) = (l.take ((acc.drop (j + 1)).headD e)).drop a :: cuts l e (acc.drop (j + 1)) := by
  intro acc j a h
  have hj := (List.getElem?_eq_some_iff.1 h)
  rw [List.drop_eq_getElem_cons hj.1, hj.2, cuts]
theorem headD_drop (acc : List Nat) (j e : Nat) : (acc.drop j).headD e = (acc[j]?).getD e := by
  rw [List.headD_eq_head?_getD, List.head?_drop]

set_option maxRecDepth 100000 in
set_option maxHeartbeats 4000000 in
theorem rsplit_any (s : ByteArray) (w : World) (hs : s.size ≤ maxLen) :
    Calls Try.prog 78 #[.string s] w fun e w' => ∃ v, e = .returned (.tuple #[v, .int .i64 (splC (nums s))]) ∧ Txs w' w.heap.size v (splP (nums s)) ∧ Below w.heap.size w w' := by
  unfold maxLen at hs
  have hl := nums_length s
  by_cases hbig : 512 < s.size
  · have e1 : splC (nums s) = 2 := by unfold splC; rw [if_pos (by omega)]
    have e2 : splP (nums s) = [] := by unfold splP; rw [if_pos (by omega)]
    rw [e1, e2]
    clear e1 e2 hl
    go_enter Try.func78, Try.ntmps78
    go_wp2
    go_ret2
    exact ⟨_, rfl, Txs.nil _ _, Below.refl _ _⟩
  · have e1 : splC (nums s) = (splitL (nums s)).1 := by unfold splC; rw [if_neg (by omega)]
    have e2 : splP (nums s) = (splitL (nums s)).2 := by unfold splP; rw [if_neg (by omega)]
    rw [e1, e2]
    have hbt := get_bt s
    clear e1 e2 hl
    go_enter Try.func78, Try.ntmps78
    go_wp2
    go_loopw [4, 5] (fun sv av wr => ∃ (k : Nat) (acc : List Nat), k ≤ s.size ∧ acc.length ≤ k ∧ av = .int .i64 (k : Int) ∧ Igs wr w.heap.size sv (acc.map (fun n : Nat => (n : Int))) ∧ Below w.heap.size w wr ∧ Hid (Ups k acc) ∧ Hid (ahd (cuts (nums s) k acc) (splitL ((nums s).drop k)) = splitL (nums s)))
      (fun _ av _ => s.size - (intOf av).toNat)
    case atStart => exact ⟨0, [], Nat.zero_le _, Nat.zero_le _, rfl, World.ownsRow_made w #[] 0 (Nat.le_refl _) (Nat.zero_le _) rfl, balloc _ _, trivial, ahd_nil _⟩
    case round =>
      obtain ⟨k, acc, hk, hal, rfl, HT, hb, HU, HR⟩ := hrel
      by_cases hlt : k < s.size
      · have hr := drop_nums s k hlt
        have h0 := bt_nonneg s k
        have h1 := bt_le s k
        obtain ⟨n, hn⟩ : ∃ n : Nat, bt s k = (n : Int) := ⟨(bt s k).toNat, by omega⟩
        have hlen : ((nums s).drop k).length = s.size - k := by rw [List.length_drop, nums_length]
        have hnb : n ≤ 255 := by omega
        have hR := HR.out
        rw [hr, hn] at hR hlen
        by_cases h2 : n < 2
        · rw [split_form _ _ (by omega)] at hR
          have HH : Hid (((4 : Int), ([] : List (List Int))) = splitL (nums s)) := hR
          clear HR hR hr hlen h0 h1
          go_wp2
          go_ret2
          rw [← HH.out]
          exact ⟨_, rfl, Txs.nil _ _, hb⟩
        by_cases h3 : s.size - k < n
        · rw [split_short _ _ (by omega) (by omega)] at hR
          have HH : Hid (((3 : Int), ([] : List (List Int))) = splitL (nums s)) := hR
          clear HR hR hr hlen h0 h1
          go_wp2
          go_ret2
          rw [← HH.out]
          exact ⟨_, rfl, Txs.nil _ _, hb⟩
        have hcs : (nums s).take (k + n) = (nums s).take k ++ ((nums s).drop k).take n := by
          rw [List.take_add]
        rw [split_step _ _ (by omega) (by omega), ahd_ahd, ← hn, ← hr, hn, Int.toNat_natCast, List.drop_drop] at hR
        have hpc : ((nums s).drop k).take n = ((nums s).take (k + n)).drop k := by rw [List.drop_take]; congr 1; omega
        rw [hpc, ← cuts_snoc] at hR
        have HH : Hid (ahd (cuts (nums s) (k + n) (acc ++ [k])) (splitL ((nums s).drop (k + n))) = splitL (nums s)) := hR
        have HU2 : Hid (Ups (k + n) (acc ++ [k])) := ups_snoc (by omega) HU.out
        have HX : Hid (Igs wr w.heap.size u4 (acc.map (fun n : Nat => (n : Int)))) := HT
        have HB : Hid (Below w.heap.size w wr) := hb
        have hsz := hb.size
        clear HR hR hr hlen h0 h1 HT hb hcs hpc HU
        go_wp2_with (at_builtin; (refine wpList_igs _ rfl _ _ rfl w.heap.size _ (acc.map (fun n : Nat => (n : Int))) rfl (World.ownsRow.alloc HX.out _) wr.heap.size 1 (k : Int) rfl (by simp) (by rw [List.length_map]; omega) (by simp; omega) ?_))
        intro v' w2 ht2 hg2 hb2
        have HX2 : Hid (Igs w2 w.heap.size v' ((acc ++ [k]).map (fun n : Nat => (n : Int)))) := by
          show Igs _ _ _ _
          rw [List.map_append]; exact ht2
        have HB2 : Hid (Below w.heap.size w w2) := (HB.out.alloc (by omega) _).trans hb2
        clear ht2 hg2 hb2 HX HB
        go_wp2
        go_roundw
        case rel => exact ⟨k + n, acc ++ [k], by omega, by rw [List.length_append]; simp; omega, by go_num, HX2.out, HB2.out, HU2, HH⟩
        case measure => simp [intOf]; omega
      · obtain rfl : k = s.size := by omega
        have hR := HR.out
        rw [drop_end s s.size (Nat.le_refl _), split_nil] at hR
        have HF : Hid (splitL (nums s) = (0, cuts (nums s) s.size acc)) := by
          show _ = _
          rw [← hR]; simp [ahd]
        obtain ⟨a, c, rfl, hlc, hcm, hz3, hcl⟩ := Rdg.of HT
        rw [List.length_map] at hlc hcl ⊢
        have HC : Hid (∀ (W : World), Below wr.heap.size wr W → ∀ (j x : Nat), acc[j]? = some x → ∃ g off, a = some ⟨g, off, none⟩ ∧ W.cell? ⟨g, off + j, none⟩ = some (.int .i64 (x : Int))) := by
          intro W hW j x hx
          have hj := (List.getElem?_eq_some_iff.1 hx).1
          obtain ⟨g, off, ha, hg, hc⟩ := hcl (by omega)
          exact ⟨g, off, ha, (hW.cell (p := ⟨g, off + j, none⟩) hg).trans (hc j _ (by simp [hx]))⟩
        have HB : Hid (Below w.heap.size w wr) := hb
        have hsz := hb.size
        obtain ⟨m, hm⟩ : ∃ m, acc.length = m := ⟨_, rfl⟩
        have HM : Hid (acc.length = m) := hm
        have hm5 : m ≤ 512 := by omega
        unfold maxLen at hcm
        rw [hm] at hlc ⊢
        clear HR hR HT hb hcl hm hz3 hal
        rename World => wo
        go_wp2
        go_loopw [6, 43] (fun ov iv wq => ∃ (j : Nat) (ot : List (List Int)), j ≤ m ∧ iv = .int .i64 (j : Int) ∧ ot.length = j ∧ Txs wq wo.heap.size ov ot ∧ Below wo.heap.size wo wq ∧ Hid (ot ++ cuts (nums s) s.size (acc.drop j) = cuts (nums s) s.size acc)) (fun _ iv _ => m - (intOf iv).toNat)
        case atStart => exact ⟨0, [], Nat.zero_le _, rfl, rfl, Txs.nil _ _, Below.refl _ _, rfl⟩
        case round =>
          obtain ⟨j, ot, hj, rfl, hot, HT, hbq, HR⟩ := hrel
          have HX : Hid (Txs wr wo.heap.size u6 ot) := HT
          have HBq : Hid (Below wo.heap.size wo wr) := hbq
          have hsq := hbq.size
          by_cases hlt : j < m
          · have hj1 : j < acc.length := by have := HM.out; omega
            obtain ⟨x, hx⟩ : ∃ x, acc[j]? = some x := ⟨acc[j], List.getElem?_eq_getElem hj1⟩
            obtain ⟨g, off, rfl, c1⟩ := HC.out wr hbq j x hx
            obtain ⟨up1, up2⟩ := ups_at acc j x HU.out hx
            have hR := HR.out
            rw [cuts_at _ _ acc j x hx] at hR
            obtain ⟨e, he⟩ : ∃ e, (acc.drop (j + 1)).headD s.size = e := ⟨_, rfl⟩
            rw [he] at up1 up2 hR
            obtain ⟨q, hq⟩ : ∃ q, ((nums s).take e).drop x = q := ⟨_, rfl⟩
            rw [hq, List.append_cons] at hR
            have HH : Hid (ot ++ [q] ++ cuts (nums s) s.size (acc.drop (j + 1)) = cuts (nums s) s.size acc) := hR
            have hxq : s.extract x e = strOfNums q := by rw [← hq, ← nums_extract, str_nums]
            have hsl : ∀ W : World, (Instr.slice 9 (.string s) (some (.int .i64 (x : Int))) (some (.int .i64 (e : Int))) none).run Try.prog W = .ok (.string (strOfNums q)) W := fun W => by
              have := run_slice_string (P := Try.prog) (w := W) 9 s .i64 .i64 (x : Int) (e : Int) Try.underlying9 (by omega) (by omega) (by omega)
              rw [Int.toNat_natCast, Int.toNat_natCast, hxq] at this
              exact this
            have hon : ot.length ≤ 512 := by omega
            rw [headD_drop] at he
            clear HR hR hq hxq HT hbq
            by_cases hl2 : j + 1 < m
            · obtain ⟨y, hy⟩ : ∃ y, acc[j + 1]? = some y := ⟨acc[j + 1]'(by have := HM.out; omega), List.getElem?_eq_getElem _⟩
              obtain rfl : y = e := by rw [hy] at he; simpa using he
              obtain ⟨g', off', hg', c2⟩ := HC.out wr HBq.out (j + 1) y hy
              obtain ⟨rfl, rfl⟩ : g = g' ∧ off = off' := by injection hg' with hg'; injection hg' with h1 h2; exact ⟨h1, h2⟩
              obtain ⟨J, hJ⟩ : ∃ J, j + 1 = J := ⟨_, rfl⟩
              have hJi : (j : Int) + 1 = (J : Int) := by omega
              have HH : Hid (ot ++ [q] ++ cuts (nums s) s.size (acc.drop J) = cuts (nums s) s.size acc) := by rw [← hJ]; exact HH.out
              rw [hJ] at c2 hl2
              have HJ : Hid (j + 1 = J) := hJ
              clear hJ
              clear HC hx hy he HU hg'
              go_wp2_with (at_builtin; (refine wpList_txs _ rfl _ _ rfl wo.heap.size _ ot rfl (World.ownsRow.alloc HX.out _) wr.heap.size 1 q rfl (by simp) (by omega) (by simp; omega) ?_))
              intro v' w2 ht2 hg2 hb2
              have HX2 : Hid (Txs w2 wo.heap.size v' (ot ++ [q])) := ht2
              have HB2 : Hid (Below wo.heap.size wo w2) := (HBq.out.alloc (by omega) _).trans hb2
              clear ht2 hg2 hb2 HX HBq
              go_wp2
              go_roundw
              case rel => exact ⟨J, ot ++ [q], by omega, rfl, by have := HJ.out; rw [List.length_append, hot]; exact this, HX2.out, HB2.out, HH⟩
              case measure => have := HJ.out; simp [intOf]; omega
            · obtain rfl : s.size = e := by rw [List.getElem?_eq_none (by have := HM.out; omega)] at he; simpa using he
              clear HC hx he HU
              go_wp2_with (at_builtin; (refine wpList_txs _ rfl _ _ rfl wo.heap.size _ ot rfl (World.ownsRow.alloc HX.out _) wr.heap.size 1 q rfl (by simp) (by omega) (by simp; omega) ?_))
              intro v' w2 ht2 hg2 hb2
              have HX2 : Hid (Txs w2 wo.heap.size v' (ot ++ [q])) := ht2
              have HB2 : Hid (Below wo.heap.size wo w2) := (HBq.out.alloc (by omega) _).trans hb2
              clear ht2 hg2 hb2 HX HBq
              go_wp2
              go_roundw
              case rel => exact ⟨j + 1, ot ++ [q], by omega, by go_num, by rw [List.length_append, hot]; rfl, HX2.out, HB2.out, HH⟩
              case measure => simp [intOf]; omega
          · have hR := HR.out
            rw [List.drop_eq_nil_of_le (by have := HM.out; omega), cuts, List.append_nil] at hR
            have HH : Hid (splitL (nums s) = (0, ot)) := by show _ = _; rw [HF.out, hR]
            clear HC HU HF HR hR HT hbq
            go_wp2
            go_ret2
            rw [HH.out]
            exact ⟨_, rfl, HX.out.mono (by omega), bsq HB.out HBq.out⟩
end Go.Proofs.Ytonheibhbilhhaa.desc

/- plugref's ReadConfig, plain: the document's reading, step by step. -/
namespace Go.Proofs.Ytonheibhbilhhaa.desc
open Go.RowKit Go.PlainAid Go.Proofs.Ytonheibhbilhhaa.lane
set_option linter.unusedVariables false

def preF (a : List Fc) : Option (List Fc × List (List Int)) → Option (List Fc × List (List Int))
  | none => none
  | some (fs, u) => some (a ++ fs, u)
def preE (a : List En) : Option (List En × List (List Int)) → Option (List En × List (List Int))
  | none => none
  | some (es, u) => some (a ++ es, u)
theorem preF_none {a : List Fc} {n : Nat} {i : Int} {l : List (List Int)} (h : refFace i l = none) : preF a (refFaces (n + 1) i l) = none := by rw [refFaces, h]; rfl
theorem preF_some {a : List Fc} {n : Nat} {i : Int} {l t : List (List Int)} {f : Fc} (h : refFace i l = some (f, t)) : preF a (refFaces (n + 1) i l) = preF (a ++ [f]) (refFaces n (i + 1) t) := by
  rw [refFaces, h]
  simp only
  cases refFaces n (i + 1) t with
  | none => rfl
  | some q => simp [preF]
theorem preE_none {a : List En} {n : Nat} {p : List Int} {r : List (List Int)} (h : isP p 7 5 = false) : preE a (refEnds (n + 1) (p :: r)) = none := by rw [refEnds, if_neg (by simp [h])]; rfl
theorem preE_nil {a : List En} {n : Nat} : preE a (refEnds (n + 1) []) = none := rfl
theorem preE_some {a : List En} {n : Nat} {p : List Int} {r : List (List Int)} (h : isP p 7 5 = true) : preE a (refEnds (n + 1) (p :: r)) = preE (a ++ [endO p]) (refEnds n r) := by
  rw [refEnds, if_pos h]
  cases refEnds n r with
  | none => rfl
  | some q => simp [preE]
theorem refEx_more {p : List Int} {r : List (List Int)} (h : 5 < p.getD 1 0) (a : List (List Int)) : (a ++ (refEx (p :: r)).1, (refEx (p :: r)).2) = ((a ++ [p]) ++ (refEx r).1, (refEx r).2) := by
  rw [refEx, if_pos h]; simp
theorem refEx_stop {p : List Int} {r : List (List Int)} (h : ¬ 5 < p.getD 1 0) : refEx (p :: r) = ([], p :: r) := by rw [refEx, if_neg h]
theorem refFace_no {i : Int} {h : List Int} {r : List (List Int)} (hf : faceB i h = false) : refFace i (h :: r) = none := by rw [refFace, if_neg (by simp [hf])]
theorem refFace_ends {i : Int} {h : List Int} {r : List (List Int)} (hf : faceB i h = true) (he : refEnds (h.getD 4 0).toNat (refEx r).2 = none) : refFace i (h :: r) = none := by rw [refFace, if_pos hf, he]
theorem refFace_is {i : Int} {h : List Int} {r t : List (List Int)} {es : List En} (hf : faceB i h = true) (he : refEnds (h.getD 4 0).toNat (refEx r).2 = some (es, t)) : refFace i (h :: r) = some (⟨h.getD 5 0, h.getD 6 0, h.getD 7 0, h.getD 8 0, (refEx r).1, es⟩, t) := by rw [refFace, if_pos hf, he]
/-- what the document's reading comes to -/
theorem ref_is {s : ByteArray} (h : splC (nums s) = 0) {c : Cf} : isT (nums s) c ↔ refC (s.size : Int) (splP (nums s)) = some (c, []) ∧ chkC c = 0 := by
  obtain ⟨_, _, hp, hl⟩ := splP_len h
  have h' := h
  unfold splC at h'
  rw [if_neg (by omega)] at h'
  obtain ⟨h1, h2⟩ := split_pieces h'
  rw [← hp] at h1 h2
  have hpb : PB (splP (nums s)) := fun p hq => ⟨h2 p hq, splP_byt s p hq⟩
  have hs : (s.size : Int) = ((splP (nums s)).flatten.length : Int) := by rw [h1, nums_length]
  constructor
  · intro ht
    refine ⟨?_, ht.1⟩
    have e1 : splP (nums s) = confP c := by rw [hp, ← ht.2, split_confL (chkC_ok ht.1)]
    rw [hs, e1, flatten_confP]
    exact refC_confP (chkC_ok ht.1)
  · rintro ⟨h3, h4⟩
    refine ⟨h4, ?_⟩
    rw [hs] at h3
    rw [refC_back hpb h3, h1]
theorem ref_not {s : ByteArray} (h : splC (nums s) = 0) (hn : refC (s.size : Int) (splP (nums s)) = none) : ∀ c, ¬ isT (nums s) c := fun c hc => by
  have := ((ref_is h).1 hc).1
  rw [hn] at this
  cases this
theorem ref_other {s : ByteArray} (h : splC (nums s) = 0) {c : Cf} {t : List (List Int)} (hn : refC (s.size : Int) (splP (nums s)) = some (c, t)) (hq : ¬ (chkC c = 0 ∧ t = [])) : ∀ c', ¬ isT (nums s) c' := fun c' hc => by
  obtain ⟨h1, h2⟩ := (ref_is h).1 hc
  rw [hn] at h1
  injection h1 with h1
  injection h1 with h3 h4
  subst h3 h4
  exact hq ⟨h2, rfl⟩
/-- faces that lie in rows of their own -/
def FrP (w w' : World) (vf : Value) (L : FL) : Prop := w'.ownsRow w.heap.size 76 6 vf L.length (fcells L) ∧ (∀ q ∈ L, Txs w' w.heap.size q.2.1 q.1.ex) ∧ ∀ q ∈ L, Eds w' w.heap.size q.2.2 q.1.en
/-- what plugref's ReadConfig answers -/
def RrP (s : ByteArray) (w : World) (e : Ending) (w' : World) : Prop :=
  (splC (nums s) ≠ 0 ∧ e = .returned (.tuple #[cfV noC (.slice none 0 0), .int .i64 (splC (nums s))]) ∧ Below w.heap.size w w') ∨
  (splC (nums s) = 0 ∧ (∀ c, ¬ isT (nums s) c) ∧ e = .returned (.tuple #[cfV noC (.slice none 0 0), .int .i64 4]) ∧ Below w.heap.size w w') ∨
  (∃ c vf L, splC (nums s) = 0 ∧ isT (nums s) c ∧ e = .returned (.tuple #[cfV c vf, .int .i64 0]) ∧ Rc w' vf c L ∧ FrP w w' vf L ∧ Below w.heap.size w w')
theorem Rts.tail {w : World} {g off n c : Nat} {p : List Int} {r : List (List Int)} {a1 : Option Addr} (h : Rts w (.slice (some ⟨g, off, none⟩) (n + 1) c) (p :: r)) (ha : 0 < n → a1 = some ⟨g, off + 1, none⟩) : Rts w (.slice a1 n (c - 1)) r := by
  obtain ⟨a', c', e, h1, h2, h3, h4⟩ := h
  injection e with e1 e2 e3
  subst e3
  rw [List.length_cons] at e2 h1 h3
  have hn : r.length = n := by omega
  refine ⟨a1, c - 1, by rw [hn], by omega, by omega, by rw [tcells_length]; omega, fun h0 => ?_⟩
  obtain ⟨g', off', q1, q2, q3⟩ := h4 (by rw [List.length_cons]; omega)
  rw [← e1] at q1
  injection q1 with q1
  injection q1 with q4 q5
  subst q4 q5
  refine ⟨g, off + 1, ha (by omega), q2, fun j x hx => ?_⟩
  have := q3 (j + 1) x (by simpa [tcells] using hx)
  rw [show off + 1 + j = off + (j + 1) by omega]
  exact this
/-- the length of a slice -/
def lenOf : Value → Nat
  | .slice _ n _ => n
  | _ => 0
end Go.Proofs.Ytonheibhbilhhaa.desc

/- DescReads: the walk (once configOf and plugref's ReadConfig answer as they should). -/
namespace Go.Proofs.Ytonheibhbilhhaa.descReads
open Go.RowKit Go.PlainAid Go.Proofs.Ytonheibhbilhhaa.lane Go.Proofs.Ytonheibhbilhhaa.desc
set_option linter.unusedVariables false
set_option linter.unusedSimpArgs false
set_option maxRecDepth 100000

/-- what both readings come to: one code, and configurations that are alike -/
theorem both {s : ByteArray} {u u' v v' : World} {e e' : Ending} (h1 : RcP s u e u') (h2 : RrP s v e' v') :
    (∃ z, z ≠ 0 ∧ e = .returned (.tuple #[cfV noC (.slice none 0 0), .int .i64 z]) ∧ e' = .returned (.tuple #[cfV noC (.slice none 0 0), .int .i64 z]) ∧ Below u.heap.size u u' ∧ Below v.heap.size v v') ∨
    (∃ c vf L vg M, e = .returned (.tuple #[cfV c vf, .int .i64 0]) ∧ e' = .returned (.tuple #[cfV c vg, .int .i64 0]) ∧ Rc u' vf c L ∧ Rc v' vg c M ∧ Below u.heap.size u u' ∧ Below v.heap.size v v') := by
  rcases h1 with ⟨a1, a2, a3⟩ | ⟨a1, a2, a3, a4⟩ | ⟨c, vf, L, X, a1, a2, a3, a4, a5⟩
  · rcases h2 with ⟨b1, b2, b3⟩ | ⟨b1, _⟩ | ⟨_, _, _, b1, _⟩
    · exact .inl ⟨_, a1, a2, b2, a3, b3⟩
    · exact absurd b1 a1
    · exact absurd b1 a1
  · rcases h2 with ⟨b1, _⟩ | ⟨b1, b2, b3, b4⟩ | ⟨c', _, _, _, b2, _⟩
    · exact absurd a1 b1
    · exact .inl ⟨4, by decide, a3, b3, a4, b4⟩
    · exact absurd b2 (a2 c')
  · rcases h2 with ⟨b1, _⟩ | ⟨_, b2, _⟩ | ⟨c', vg, M, _, b2, b3, b4, _, b5⟩
    · exact absurd a1 b1
    · exact absurd a2 (b2 c)
    · have hc := isT_one a2 b2
      subst hc
      exact .inr ⟨c, vf, L, vg, M, a3, b3, ⟨a4.rc.fs, a5⟩, b4, a4.bel, b5⟩
/-- plugref's ReadConfig answers as it should -/
def RrAll : Prop := ∀ (s : ByteArray) (w : World), s.size ≤ maxLen → Calls Try.prog 61 #[.string s] w (RrP s w)
end Go.Proofs.Ytonheibhbilhhaa.descReads

/- a region that draws its order, of which every world is known; what WordAt answers, to the draw. -/
namespace Go.Proofs.Ytonheibhbilhhaa.desc
open Go.RowKit Go.PlainAid Go.Proofs.Ytonheibhbilhhaa.lane
set_option linter.unusedVariables false
set_option linter.unusedSimpArgs false

section
variable {P : Program} {md : Region.Mode} {ops : Array Oper}
theorem lexk_plain {K : World → Prop} {Q : Array Bool → Act → Prop} {k : Nat} {o : Oper} {rest : List Oper} {L : Array Bool} {a : Act} (v : Value) (hg : o.guard = none)
    (hrun : ∀ W, (execOp a.eval o).run P W = .ok (.value v) W) (h : wpLex P md ops (fun _ => K) Q (k + 1) rest (L.setIfInBounds k true) (a.put o.dst v)) : wpLex P md ops (fun _ => K) Q k (o :: rest) L a :=
  lexg v hg (fun L W _ hC => by rw [hrun W]; exact ⟨hC, rfl⟩) h
/-- the world of the listed: 1 a load, 13 a call, 17 a build, 18 a new row, 19 an append, 23 a store -/
def stE (w0 w1 w2 w3 w4 : World) (L : Array Bool) : Option World :=
  if L.getD 23 false then (if L.getD 19 false && (L.getD 18 false && (L.getD 17 false && (L.getD 13 false && L.getD 1 false))) then some w4 else none)
  else if L.getD 19 false then (if L.getD 18 false && (L.getD 17 false && (L.getD 13 false && L.getD 1 false)) then some w3 else none)
  else if L.getD 18 false then (if L.getD 17 false && L.getD 13 false then some w2 else none)
  else if L.getD 17 false then (if L.getD 13 false then some w1 else none)
  else if L.getD 13 false then some w1 else some w0
variable {w0 w1 w2 w3 w4 : World} {L : Array Bool} {W : World}
theorem stE_plain (k : Nat) (h1 : k ≠ 1) (h13 : k ≠ 13) (h17 : k ≠ 17) (h18 : k ≠ 18) (h19 : k ≠ 19) (h23 : k ≠ 23) : stE w0 w1 w2 w3 w4 (L.setIfInBounds k true) = stE w0 w1 w2 w3 w4 L := by
  unfold stE
  rw [getD_set_ne false h1, getD_set_ne false h13, getD_set_ne false h17, getD_set_ne false h18, getD_set_ne false h19, getD_set_ne false h23]
theorem stE_1 (h : stE w0 w1 w2 w3 w4 L = some W) (hz : 1 < L.size) (h1 : L.getD 1 false = false) : (W = w0 ∨ W = w1 ∨ W = w2) ∧ stE w0 w1 w2 w3 w4 (L.setIfInBounds 1 true) = some W := by
  unfold stE at h ⊢
  rw [set_same hz, getD_set_ne false (show (1 : Nat) ≠ 13 by decide), getD_set_ne false (show (1 : Nat) ≠ 17 by decide), getD_set_ne false (show (1 : Nat) ≠ 18 by decide), getD_set_ne false (show (1 : Nat) ≠ 19 by decide), getD_set_ne false (show (1 : Nat) ≠ 23 by decide)]
  rw [h1] at h
  generalize L.getD 13 false = a at *
  generalize L.getD 17 false = b at *
  generalize L.getD 18 false = c at *
  generalize L.getD 19 false = d at *
  generalize L.getD 23 false = e at *
  cases a <;> cases b <;> cases c <;> cases d <;> cases e <;> simp at h ⊢ <;> simp [h]
theorem stE_13 (h : stE w0 w1 w2 w3 w4 L = some W) (hz : 13 < L.size) (h1 : L.getD 13 false = false) : W = w0 ∧ stE w0 w1 w2 w3 w4 (L.setIfInBounds 13 true) = some w1 := by
  unfold stE at h ⊢
  rw [set_same hz, getD_set_ne false (show (13 : Nat) ≠ 1 by decide), getD_set_ne false (show (13 : Nat) ≠ 17 by decide), getD_set_ne false (show (13 : Nat) ≠ 18 by decide), getD_set_ne false (show (13 : Nat) ≠ 19 by decide), getD_set_ne false (show (13 : Nat) ≠ 23 by decide)]
  rw [h1] at h
  generalize L.getD 1 false = a at *
  generalize L.getD 17 false = b at *
  generalize L.getD 18 false = c at *
  generalize L.getD 19 false = d at *
  generalize L.getD 23 false = e at *
  cases a <;> cases b <;> cases c <;> cases d <;> cases e <;> simp at h ⊢ <;> simp [h]
theorem stE_17 (h : stE w0 w1 w2 w3 w4 L = some W) (hz : 17 < L.size) (h1 : L.getD 17 false = false) (h2 : L.getD 13 false = true) : stE w0 w1 w2 w3 w4 (L.setIfInBounds 17 true) = some W := by
  unfold stE at h ⊢
  rw [set_same hz, getD_set_ne false (show (17 : Nat) ≠ 1 by decide), getD_set_ne false (show (17 : Nat) ≠ 13 by decide), getD_set_ne false (show (17 : Nat) ≠ 18 by decide), getD_set_ne false (show (17 : Nat) ≠ 19 by decide), getD_set_ne false (show (17 : Nat) ≠ 23 by decide), h2]
  rw [h1, h2] at h
  generalize L.getD 1 false = a at *
  generalize L.getD 18 false = c at *
  generalize L.getD 19 false = d at *
  generalize L.getD 23 false = e at *
  cases a <;> cases c <;> cases d <;> cases e <;> simp at h ⊢ <;> simp [h]
theorem stE_18 (h : stE w0 w1 w2 w3 w4 L = some W) (hz : 18 < L.size) (h1 : L.getD 18 false = false) (h2 : L.getD 17 false = true) : W = w1 ∧ stE w0 w1 w2 w3 w4 (L.setIfInBounds 18 true) = some w2 := by
  unfold stE at h ⊢
  rw [set_same hz, getD_set_ne false (show (18 : Nat) ≠ 1 by decide), getD_set_ne false (show (18 : Nat) ≠ 13 by decide), getD_set_ne false (show (18 : Nat) ≠ 17 by decide), getD_set_ne false (show (18 : Nat) ≠ 19 by decide), getD_set_ne false (show (18 : Nat) ≠ 23 by decide), h2]
  rw [h1, h2] at h
  generalize L.getD 1 false = a at *
  generalize L.getD 13 false = c at *
  generalize L.getD 19 false = d at *
  generalize L.getD 23 false = e at *
  cases a <;> cases c <;> cases d <;> cases e <;> simp at h ⊢ <;> simp [h]
theorem stE_19 (h : stE w0 w1 w2 w3 w4 L = some W) (hz : 19 < L.size) (h1 : L.getD 19 false = false) (h2 : L.getD 18 false = true) (h3 : L.getD 1 false = true) : W = w2 ∧ stE w0 w1 w2 w3 w4 (L.setIfInBounds 19 true) = some w3 := by
  unfold stE at h ⊢
  rw [set_same hz, getD_set_ne false (show (19 : Nat) ≠ 1 by decide), getD_set_ne false (show (19 : Nat) ≠ 13 by decide), getD_set_ne false (show (19 : Nat) ≠ 17 by decide), getD_set_ne false (show (19 : Nat) ≠ 18 by decide), getD_set_ne false (show (19 : Nat) ≠ 23 by decide), h2, h3]
  rw [h1, h2, h3] at h
  generalize L.getD 13 false = c at *
  generalize L.getD 17 false = d at *
  generalize L.getD 23 false = e at *
  cases c <;> cases d <;> cases e <;> simp at h ⊢ <;> simp [h]
theorem stE_23 (h : stE w0 w1 w2 w3 w4 L = some W) (hz : 23 < L.size) (h1 : L.getD 23 false = false) (h2 : L.getD 19 false = true) : W = w3 ∧ stE w0 w1 w2 w3 w4 (L.setIfInBounds 23 true) = some w4 := by
  unfold stE at h ⊢
  rw [set_same hz, getD_set_ne false (show (23 : Nat) ≠ 1 by decide), getD_set_ne false (show (23 : Nat) ≠ 13 by decide), getD_set_ne false (show (23 : Nat) ≠ 17 by decide), getD_set_ne false (show (23 : Nat) ≠ 18 by decide), getD_set_ne false (show (23 : Nat) ≠ 19 by decide), h2]
  rw [h1, h2] at h
  generalize L.getD 1 false = a at *
  generalize L.getD 13 false = c at *
  generalize L.getD 17 false = d at *
  generalize L.getD 18 false = e at *
  cases a <;> cases c <;> cases d <;> cases e <;> simp at h ⊢ <;> simp [h]
/-- worlds by what has come up -/
def SE (w0 w1 w2 w3 w4 : World) : Array Bool → World → Prop := fun L w => stE w0 w1 w2 w3 w4 L = some w
/-- an operation that is the same in every world -/
theorem lexe_plain {Q : Array Bool → Act → Prop} {k : Nat} {o : Oper} {rest : List Oper} {a : Act} (v : Value) (hk : k ≠ 1 ∧ k ≠ 13 ∧ k ≠ 17 ∧ k ≠ 18 ∧ k ≠ 19 ∧ k ≠ 23) (hg : o.guard = none)
    (hrun : ∀ W, (execOp a.eval o).run P W = .ok (.value v) W) (h : wpLex P md ops (SE w0 w1 w2 w3 w4) Q (k + 1) rest (L.setIfInBounds k true) (a.put o.dst v)) : wpLex P md ops (SE w0 w1 w2 w3 w4) Q k (o :: rest) L a :=
  lexg v hg (fun L W _ hC => by rw [hrun W]; exact ⟨(stE_plain k hk.1 hk.2.1 hk.2.2.1 hk.2.2.2.1 hk.2.2.2.2.1 hk.2.2.2.2.2).trans hC, rfl⟩) h
theorem append_run {o : Oper} {a : Act} {x y : Operand} {t : TypeId} {v u r : Value} {w w' : World} (ho : o.op = .call { callee := .builtin .append, args := #[x, y], argTypes := #[t, t] }) (hx : a.eval x = v) (hy : a.eval y = u)
    (hr : (Builtin.append_ #[t, t] o.type #[v, u]).run P w = .ok r w') : (execOp a.eval o).run P w = .ok (.value r) w' := by
  unfold execOp
  simp only [ho, resolve, invoke, builtin, Sem.run_bind, Sem.run_pure, Result.andThen_ok, List.map_toArray, List.map_cons, List.map_nil, hx, hy, hr]
section
variable {Q : Array Bool → Act → Prop} {o : Oper} {rest : List Oper} {a : Act} {L : Array Bool}
theorem lexe_1 (v : Value) (hg : o.guard = none) (r0 : (execOp a.eval o).run P w0 = .ok (.value v) w0) (r1 : (execOp a.eval o).run P w1 = .ok (.value v) w1) (r2 : (execOp a.eval o).run P w2 = .ok (.value v) w2)
    (h : wpLex P md ops (SE w0 w1 w2 w3 w4) Q 2 rest (L.setIfInBounds 1 true) (a.put o.dst v)) : wpLex P md ops (SE w0 w1 w2 w3 w4) Q 1 (o :: rest) L a :=
  lexg v hg (fun L W hr hC => by
    obtain ⟨h1, hz⟩ := rdy_at hr
    obtain ⟨hW, hs⟩ := stE_1 hC hz h1
    have e : (execOp a.eval o).run P W = .ok (.value v) W := by rcases hW with rfl | rfl | rfl <;> assumption
    rw [e]
    exact ⟨hs, rfl⟩) h
theorem lexe_13 (v : Value) (f : FuncId) (args : Array Value) (hg : o.guard = none) (hrun : ∀ W, (execOp a.eval o).run P W = .ok (.enter f args) W) (hc : Calls P f args w0 fun e w' => e = .returned v ∧ w' = w1)
    (h : wpLex P md ops (SE w0 w1 w2 w3 w4) Q 14 rest (L.setIfInBounds 13 true) (a.put o.dst v)) : wpLex P md ops (SE w0 w1 w2 w3 w4) Q 13 (o :: rest) L a :=
  lexg v hg (fun L W hr hC => by
    obtain ⟨h1, hz⟩ := rdy_at hr
    obtain ⟨rfl, hs⟩ := stE_13 hC hz h1
    rw [hrun W]
    refine ⟨rfl, hc.mono fun e w' ⟨he, hw⟩ => ⟨he, ?_⟩⟩
    rw [hw]
    exact hs) h
theorem lexe_17 (v : Value) (hg : o.guard = none) (hw : Region.waitsFor md ops 17 13 = true) (hrun : ∀ W, (execOp a.eval o).run P W = .ok (.value v) W)
    (h : wpLex P md ops (SE w0 w1 w2 w3 w4) Q 18 rest (L.setIfInBounds 17 true) (a.put o.dst v)) : wpLex P md ops (SE w0 w1 w2 w3 w4) Q 17 (o :: rest) L a :=
  lexg v hg (fun L W hr hC => by
    obtain ⟨h1, hz⟩ := rdy_at hr
    rw [hrun W]
    exact ⟨stE_17 hC hz h1 (rdy_after hr hw), rfl⟩) h
theorem lexe_18 (v : Value) (hg : o.guard = none) (hw : Region.waitsFor md ops 18 17 = true) (hrun : (execOp a.eval o).run P w1 = .ok (.value v) w2)
    (h : wpLex P md ops (SE w0 w1 w2 w3 w4) Q 19 rest (L.setIfInBounds 18 true) (a.put o.dst v)) : wpLex P md ops (SE w0 w1 w2 w3 w4) Q 18 (o :: rest) L a :=
  lexg v hg (fun L W hr hC => by
    obtain ⟨h1, hz⟩ := rdy_at hr
    obtain ⟨rfl, hs⟩ := stE_18 hC hz h1 (rdy_after hr hw)
    rw [hrun]
    exact ⟨hs, rfl⟩) h
theorem lexe_19 (v : Value) (hg : o.guard = none) (hw : Region.waitsFor md ops 19 18 = true) (hw' : Region.waitsFor md ops 19 1 = true) (hrun : (execOp a.eval o).run P w2 = .ok (.value v) w3)
    (h : wpLex P md ops (SE w0 w1 w2 w3 w4) Q 20 rest (L.setIfInBounds 19 true) (a.put o.dst v)) : wpLex P md ops (SE w0 w1 w2 w3 w4) Q 19 (o :: rest) L a :=
  lexg v hg (fun L W hr hC => by
    obtain ⟨h1, hz⟩ := rdy_at hr
    obtain ⟨rfl, hs⟩ := stE_19 hC hz h1 (rdy_after hr hw) (rdy_after hr hw')
    rw [hrun]
    exact ⟨hs, rfl⟩) h
theorem lexe_23 (hg : o.guard = none) (hw : Region.waitsFor md ops 23 19 = true) (hrun : (execOp a.eval o).run P w3 = .ok .skip w4)
    (h : wpLex P md ops (SE w0 w1 w2 w3 w4) Q 24 rest (L.setIfInBounds 23 true) (a.put o.dst undef)) : wpLex P md ops (SE w0 w1 w2 w3 w4) Q 23 (o :: rest) L a :=
  lexg undef hg (fun L W hr hC => by
    obtain ⟨h1, hz⟩ := rdy_at hr
    obtain ⟨rfl, hs⟩ := stE_23 hC hz h1 (rdy_after hr hw)
    rw [hrun]
    exact ⟨hs, rfl⟩) h
end
end
set_option maxHeartbeats 1000000 in
theorem wordAt_drew (s : ByteArray) (w : World) (h5 : 5 < s.size) (hs : s.size ≤ maxLen) :
    Calls Try.prog 60 #[.string s, .int .i64 4] w fun e w' => e = .returned (.int .i64 (bt s 4 + 256 * bt s 5)) ∧ w' = w.drew := by
  unfold maxLen at hs
  have x0 : ∀ W : World, (Instr.index 9 (.string s) (.int .i64 4)).run Try.prog W = .ok (.int .u8 (bt s 4)) W := run_ix s 4 (by omega)
  have x1 : ∀ W : World, (Instr.index 9 (.string s) (.int .i64 5)).run Try.prog W = .ok (.int .u8 (bt s 5)) W := run_ix s 5 (by omega)
  have b0 := bt_nonneg s 4
  have b1 := bt_le s 4
  have c0 := bt_nonneg s 5
  have c1 := bt_le s 5
  have m0 : IntKind.i64.wrap (bt s 4) = bt s 4 := by rw [IntKind.wrap_i64]; omega
  have m1 : IntKind.i64.wrap (bt s 5) = bt s 5 := by rw [IntKind.wrap_i64]; omega
  have n2 : IntKind.i64.wrap (256 * bt s 5) = 256 * bt s 5 := by rw [IntKind.wrap_i64]; omega
  have n3 : IntKind.i64.wrap (256 * bt s 5 + bt s 4) = 256 * bt s 5 + bt s 4 := by rw [IntKind.wrap_i64]; omega
  have o2 : wrap64 (256 * bt s 5) = 256 * bt s 5 := by unfold wrap64; omega
  have o3 : wrap64 (256 * bt s 5 + bt s 4) = 256 * bt s 5 + bt s 4 := by unfold wrap64; omega
  have n5 : IntKind.i64.wrap 5 = 5 := by decide
  have HN : Hid (256 * bt s 5 + bt s 4 = bt s 4 + 256 * bt s 5) := Int.add_comm _ _
  generalize bt s 4 + 256 * bt s 5 = N at *
  generalize bt s 5 = y at *
  generalize bt s 4 = x at *
  go_enter Try.func60, Try.ntmps60
  go_wp2_with fail
  refine wp_region_L (fun _ w' => w' = w.drew) (by kernel_rfl) (by kernel_rfl) rfl ?_
  refine lexk_plain (.string s) rfl (fun W => by simp [execOp, go_sem]) ?_
  refine lexk_plain (.int .i64 4) rfl (fun W => by simp [execOp, go_sem]) ?_
  refine lexk_plain (.int .i64 5) rfl (fun W => by simp [execOp, go_sem, n5]) ?_
  refine lexk_plain (.int .u8 y) rfl (fun W => by simp [execOp, go_sem, x1]) ?_
  refine lexk_plain (.int .i64 y) rfl (fun W => by simp [execOp, go_sem, m1]) ?_
  refine lexk_plain (.int .i64 (256 * y)) rfl (fun W => by simp [execOp, go_sem, n2, o2]) ?_
  refine lexk_plain (.string s) rfl (fun W => by simp [execOp, go_sem]) ?_
  refine lexk_plain (.int .i64 4) rfl (fun W => by simp [execOp, go_sem]) ?_
  refine lexk_plain (.int .u8 x) rfl (fun W => by simp [execOp, go_sem, x0]) ?_
  refine lexk_plain (.int .i64 x) rfl (fun W => by simp [execOp, go_sem, m0]) ?_
  refine lexk_plain (.int .i64 (256 * y + x)) rfl (fun W => by simp [execOp, go_sem, n3, o3]) ?_
  refine lexk_plain (.int .i64 (256 * y + x)) rfl (fun W => by simp [execOp, go_sem]) ?_
  intro w' hw'
  subst hw'
  clear x0 x1
  go_simp
  go_wp2
  go_ret
  rw [HN.out]
  exact ⟨rfl, rfl⟩
end Go.Proofs.Ytonheibhbilhhaa.desc

/- plugref: a configuration that is being read: how it stays, and the end with nothing found as one step. -/
namespace Go.Proofs.Ytonheibhbilhhaa.desc
open Go.RowKit Go.PlainAid Go.Proofs.Ytonheibhbilhhaa.lane
set_option linter.unusedVariables false
set_option linter.unusedSimpArgs false
set_option maxRecDepth 100000

abbrev fbO (f : Fc) (ve vd : Value) : Obj := .cells #[.int .i64 f.cl, .int .i64 f.su, .int .i64 f.pr, .int .i64 f.nm, ve, vd] 76
/-- the end with nothing found -/
structure No (w : World) (u : World) : Prop where
  box : u.heap[w.heap.size]? = some (cfO 0 0 0 0 (.slice none 0 0))
  bel : Below w.heap.size w u
theorem No.below {w u u' : World} (h : No w u) (hb : Below u.heap.size u u') : No w u' := ⟨res_below h.box hb, bsq h.bel hb⟩
theorem Bf.base {w w0 wr : World} {X : Nat} {va na atr po : Int} {vf : Value} {L : FL} (h : Bf w0 wr X va na atr po vf L) (hb : Below w.heap.size w w0) : Bf w wr X va na atr po vf L :=
  ⟨h.box, Nat.le_trans hb.size h.hX, own_mono h.row hb.size, fun q hq => own_mono (h.tx q hq) hb.size, fun q hq => own_mono (h.en q hq) hb.size, h.bb, hb.trans (h.bel.mono hb.size)⟩
theorem Bf.setR {w0 wr : World} {X R k : Nat} {va na atr po : Int} {vf u : Value} {L : FL} {cs : Array Value} (h : Bf w0 wr X va na atr po vf L) (hR : wr.heap[R]? = some (.cells cs 26)) (hne : X ≠ R) (hB : w0.heap.size ≤ R) :
    Bf w0 (wr.setCell ⟨R, k, none⟩ u) X va na atr po vf L :=
  ⟨(Below.heap_setCell _ _ _ _ hne).trans h.box, h.hX, ownsRow_setCell_other h.row (box_ne h.row hR (by decide)) u, fun q hq => ownsRow_setCell_other (h.tx q hq) (box_ne (h.tx q hq) hR (by decide)) u,
    fun q hq => ownsRow_setCell_other (h.en q hq) (box_ne (h.en q hq) hR (by decide)) u, h.bb, h.bel.setCell hB u⟩
/-- a copy stays one where a configuration is put in the place R -/
theorem ch5b (W : World) (R : Nat) (e0 e1 e2 e3 : Int) (e4 : Value) (a b c d : Int) (v : Value) (h : W.heap[R]? = some (cfO e0 e1 e2 e3 e4)) :
    ∃ wf, (((((W.setCell ⟨R, 0, none⟩ (.int .i64 a)).setCell ⟨R, 1, none⟩ (.int .i64 b)).setCell ⟨R, 2, none⟩ (.int .i64 c)).setCell ⟨R, 3, none⟩ (.int .i64 d)).setCell ⟨R, 4, none⟩ v) = wf ∧ wf.heap[R]? = some (cfO a b c d v) ∧
      (∀ (w0 : World) (X : Nat) (va na atr po : Int) (vf : Value) (L : FL), w0.heap.size ≤ R → X ≠ R → Bf w0 W X va na atr po vf L → Bf w0 wf X va na atr po vf L) := by
  have h0 := csetX (cs' := #[.int .i64 a, .int .i64 e1, .int .i64 e2, .int .i64 e3, e4]) 0 (.int .i64 a) h rfl
  have h1 := csetX (cs' := #[.int .i64 a, .int .i64 b, .int .i64 e2, .int .i64 e3, e4]) 1 (.int .i64 b) h0 rfl
  have h2 := csetX (cs' := #[.int .i64 a, .int .i64 b, .int .i64 c, .int .i64 e3, e4]) 2 (.int .i64 c) h1 rfl
  have h3 := csetX (cs' := #[.int .i64 a, .int .i64 b, .int .i64 c, .int .i64 d, e4]) 3 (.int .i64 d) h2 rfl
  have h4 := csetX (cs' := #[.int .i64 a, .int .i64 b, .int .i64 c, .int .i64 d, v]) 4 v h3 rfl
  exact ⟨_, rfl, h4, fun w0 X va na atr po vf L hR hne hI => ((((hI.setR h hne hR).setR h0 hne hR).setR h1 hne hR).setR h2 hne hR).setR h3 hne hR⟩
/-- an operation that reads what lies in every world of the class -/
theorem lex_read {P : Program} {md : Region.Mode} {ops : Array Oper} {st : Array Bool → Option World} {Q : Array Bool → Act → Prop} {k : Nat} {o : Oper} {rest : List Oper} {L : Array Bool} {a : Act} (v : Value) (hst : ∀ L, st (L.setIfInBounds k true) = st L) (hg : o.guard = none)
    (hrun : ∀ L W n, st L = some W → (execOp a.eval o).run P (W.drewN n) = .ok (.value v) (W.drewN n)) (h : wpLex P md ops (St st) Q (k + 1) rest (L.setIfInBounds k true) (a.put o.dst v)) : wpLex P md ops (St st) Q k (o :: rest) L a := by
  refine ⟨v, ⟨by simp [Region.wanted, hg], fun L w _ hw => ?_⟩, h⟩
  obtain ⟨W, n, h1, rfl⟩ := hw
  rw [hrun L W n h1]
  exact ⟨⟨W, n, by rw [hst]; exact h1, rfl⟩, rfl⟩
theorem No.fin {w u : World} (h : No w u) : ∃ wf, (((((u.setCell ⟨w.heap.size, 0, none⟩ (.int .i64 0)).setCell ⟨w.heap.size, 1, none⟩ (.int .i64 0)).setCell ⟨w.heap.size, 2, none⟩ (.int .i64 0)).setCell ⟨w.heap.size, 3, none⟩ (.int .i64 0)).setCell ⟨w.heap.size, 4, none⟩ (.slice none 0 0)) = wf ∧ Below w.heap.size w wf ∧
    (w.heap.size < u.heap.size ∧ u.cell? ⟨w.heap.size, 0, none⟩ = some (.int .i64 0) ∧ u.cell? ⟨w.heap.size, 1, none⟩ = some (.int .i64 0) ∧ u.cell? ⟨w.heap.size, 2, none⟩ = some (.int .i64 0) ∧ u.cell? ⟨w.heap.size, 3, none⟩ = some (.int .i64 0) ∧ u.cell? ⟨w.heap.size, 4, none⟩ = some (.slice none 0 0)) ∧
    (u.frozen? ⟨w.heap.size, 0, none⟩ = false ∧ u.frozen? ⟨w.heap.size, 1, none⟩ = false ∧ u.frozen? ⟨w.heap.size, 2, none⟩ = false ∧ u.frozen? ⟨w.heap.size, 3, none⟩ = false ∧ u.frozen? ⟨w.heap.size, 4, none⟩ = false) ∧
    (w.heap.size < wf.heap.size ∧ wf.cell? ⟨w.heap.size, 0, none⟩ = some (.int .i64 0) ∧ wf.cell? ⟨w.heap.size, 1, none⟩ = some (.int .i64 0) ∧ wf.cell? ⟨w.heap.size, 2, none⟩ = some (.int .i64 0) ∧ wf.cell? ⟨w.heap.size, 3, none⟩ = some (.int .i64 0) ∧ wf.cell? ⟨w.heap.size, 4, none⟩ = some (.slice none 0 0)) := by
  obtain ⟨k1, k2⟩ := box5f h.box
  obtain ⟨wf, hwf, hRf, hBf, _⟩ := ch5 u w.heap.size _ _ _ _ _ 0 0 0 0 (.slice none 0 0) h.box
  exact ⟨wf, hwf, hBf w (Nat.le_refl _) h.bel, k1, k2, (box5f hRf).1⟩
/-- an operation of a list, by what it yields -/
theorem wpl_value {P : Program} {ops : Array Oper} {Q : Exit → Act → World → Prop} {o : Oper} {rest : List Oper} {a : Act} {w w' : World} (v : Value) (hg : o.guard = none) (hrun : (execOp a.eval o).run P w = .ok (.value v) w')
    (h : wpList P ops Q rest (a.put o.dst v) w') : wpList P ops Q (o :: rest) a w :=
  wpList_plain hg fun K hK => by unfold Oper.wp; rw [hrun]; exact hK _ _ h
theorem wpl_skip {P : Program} {ops : Array Oper} {Q : Exit → Act → World → Prop} {o : Oper} {rest : List Oper} {a : Act} {w w' : World} (hg : o.guard = none) (hrun : (execOp a.eval o).run P w = .ok .skip w')
    (h : wpList P ops Q rest (a.put o.dst undef) w') : wpList P ops Q (o :: rest) a w :=
  wpList_plain hg fun K hK => by unfold Oper.wp; rw [hrun]; exact hK _ _ h
/-- 'return api.Config{}, n' in the world u -/
theorem ret_no {id d : Nat} {t1 t2 t3 : TypeId} {p1 p2 p3 : String} {f1 f2 f3 : Array Edge} {n : Int} {Q : Exit → Act → World → Prop} {a : Act} {w u : World} {R : Ending → World → Prop} (hN : No w u)
    (hsz : a.tmps.size = 241) (g2 : ∀ h, a.tmps[2]'h = .pointer (some ⟨w.heap.size, 0, none⟩)) (hdf : a.defers = []) (hd : d < 241) (hd2 : d ≠ 2) (hd3 : d ≠ 3)
    (hR : ∀ wf, Below w.heap.size w wf → R (.returned (.tuple #[cfV noC (.slice none 0 0), .int .i64 n])) wf)
    (hQ : ∀ a' wf, bodyPost Try.prog Try.f61 R .ret a' wf → Q .normal a' wf) :
    (Code.region id #[{ dst := some d, op := .build 26 #[], type := t1, pos := p1, after := f1, guard := none }, { dst := none, op := .store 26 (.tmp 2) (.tmp d), type := t2, pos := p2, after := f2, guard := none },
      { dst := some 3, op := .assign (.const (.int .i64 n)), type := t3, pos := p3, after := f3, guard := none }] false).wp Try.prog Q a u := by
  obtain ⟨wf, hwf, hBf, ⟨hzR, z0, z1, z2, z3, z4⟩, ⟨f0, f1', f2', f3', f4⟩, ⟨hzf, r0, r1, r2, r3, r4⟩⟩ := hN.fin
  refine wp_region_lit (l := [_, _, _]) ?_
  refine wpl_value (w' := u) (.agg #[.int .i64 0, .int .i64 0, .int .i64 0, .int .i64 0, .slice none 0 0]) rfl (by simp [execOp, go_sem]) ?_
  refine wpl_skip (w' := wf) rfl (by rw [← hwf]; simp [execOp, go_sem, hsz, g2, hd, hd2, Ne.symm hd2, Act.eval, Act.put, hzR, z0, z1, z2, z3, z4, f0, f1', f2', f3', f4]) ?_
  refine wpl_value (w' := wf) (.int .i64 n) rfl (by simp [execOp, go_sem]) ?_
  refine (hQ _ _ (bodyPost_ret (v := .tuple #[cfV noC (.slice none 0 0), .int .i64 n]) ?_ ?_ (hR wf hBf)))
  · simp [results, Try.results61, go_sem, hsz, g2, hd, hd2, hd3, Act.put, hzf, r0, r1, r2, r3, r4, noC]
  · simp [Act.put, hdf]
end Go.Proofs.Ytonheibhbilhhaa.desc
